/-
  The laws' marks, put into any value that the law has made: what it is made of stays of one kind.
  Conditions: those that each theorem names.
-/
import Derived.Test.YtbgffmiffmmohaaGreatDoorHcSMarks
namespace Go.Proofs.YtbgffmiffmmohaaGreatDoor.tree
open Go.ChangeShapes Go.WideShapes Go.ChangeAt Go.RowKit
set_option linter.unusedVariables false

mutual
/-- What a tree is without its words. -/
def nrm : Tr → Tr
  | .mk _ _ _ _ _ vs => .mk 0 0 ⟨#[]⟩ 0 [] (nrms vs)
def nrms : List Tr → List Tr
  | [] => []
  | t :: vs => nrm t :: nrms vs
end
theorem nrms_map : ∀ vs, nrms vs = vs.map nrm
  | [] => by rw [nrms]; rfl
  | t :: vs => by rw [nrms, nrms_map vs]; rfl
theorem nrm_mk (k n : Int) (s : ByteArray) (x : Int) (ks : List Ky) (vs : List Tr) : nrm (.mk k n s x ks vs) = .mk 0 0 ⟨#[]⟩ 0 [] (nrms vs) := by rw [nrm]
theorem nrm_items {k n x k' n' x' : Int} {s s' : ByteArray} {ks ks' : List Ky} {vs vs' : List Tr} (h : nrm (.mk k n s x ks vs) = nrm (.mk k' n' s' x' ks' vs')) : nrms vs = nrms vs' := by rw [nrm_mk, nrm_mk] at h; injection h
mutual
theorem cnt_nrm : ∀ t, cnt (nrm t) = cnt t
  | .mk _ _ _ _ _ vs => by rw [nrm, cnt, cnt, cnts_nrm vs]
theorem cnts_nrm : ∀ vs, cnts (nrms vs) = cnts vs
  | [] => by rw [nrms]
  | t :: vs => by rw [nrms, cnts_cons', cnts_cons', cnt_nrm t, cnts_nrm vs]
end

/-- Cells of one kind. -/
def Sim1 (u v : Value) : Prop := u = v ∨ (∃ b b', u = .bool b ∧ v = .bool b') ∨ (∃ n n', u = .int .i64 n ∧ v = .int .i64 n' ∧ I64 n') ∨ (∃ s s', u = .string s ∧ v = .string s' ∧ s'.size ≤ maxLen)
theorem Sim1.trans {u v x : Value} (h : Sim1 u v) (k : Sim1 v x) : Sim1 u x := by
  rcases h with rfl | ⟨b, b', rfl, rfl⟩ | ⟨n, n', rfl, rfl, hn⟩ | ⟨s, s', rfl, rfl, hs⟩
  · exact k
  · rcases k with rfl | ⟨b, b', e, rfl⟩ | ⟨n, n', e, rfl, hn⟩ | ⟨s, s', e, rfl, hs⟩
    · exact .inr (.inl ⟨_, _, rfl, rfl⟩)
    · exact .inr (.inl ⟨_, _, rfl, rfl⟩)
    · cases e
    · cases e
  · rcases k with rfl | ⟨b, b', e, rfl⟩ | ⟨n, n', e, rfl, hn'⟩ | ⟨s, s', e, rfl, hs⟩
    · exact .inr (.inr (.inl ⟨_, _, rfl, rfl, hn⟩))
    · cases e
    · exact .inr (.inr (.inl ⟨_, _, rfl, rfl, hn'⟩))
    · cases e
  · rcases k with rfl | ⟨b, b', e, rfl⟩ | ⟨n, n', e, rfl, hn'⟩ | ⟨s, s', e, rfl, hs'⟩
    · exact .inr (.inr (.inr ⟨_, _, rfl, rfl, hs⟩))
    · cases e
    · cases e
    · exact .inr (.inr (.inr ⟨_, _, rfl, rfl, hs'⟩))
theorem Sim1.bool {b : Bool} {v : Value} (h : Sim1 (.bool b) v) : ∃ b', v = .bool b' := by
  rcases h with rfl | ⟨b, b', e, rfl⟩ | ⟨n, n', e, rfl, hn⟩ | ⟨s, s', e, rfl, hs⟩
  · exact ⟨_, rfl⟩
  · exact ⟨_, rfl⟩
  · cases e
  · cases e
theorem Sim1.int {n : Int} {v : Value} (h : Sim1 (.int .i64 n) v) (h0 : I64 n) : ∃ n', v = .int .i64 n' ∧ I64 n' := by
  rcases h with rfl | ⟨b, b', e, rfl⟩ | ⟨n, n', e, rfl, hn⟩ | ⟨s, s', e, rfl, hs⟩
  · exact ⟨_, rfl, h0⟩
  · cases e
  · exact ⟨_, rfl, hn⟩
  · cases e
theorem Sim1.text {s : ByteArray} {v : Value} (h : Sim1 (.string s) v) (h0 : s.size ≤ maxLen) : ∃ s', v = .string s' ∧ s'.size ≤ maxLen := by
  rcases h with rfl | ⟨b, b', e, rfl⟩ | ⟨n, n', e, rfl, hn⟩ | ⟨s, s', e, rfl, hs⟩
  · exact ⟨_, rfl, h0⟩
  · cases e
  · cases e
  · exact ⟨_, rfl, hs⟩
theorem Sim1.slice {A : Option Addr} {L c : Nat} {v : Value} (h : Sim1 (.slice A L c) v) : v = .slice A L c := by
  rcases h with rfl | ⟨b, b', e, rfl⟩ | ⟨n, n', e, rfl, hn⟩ | ⟨s, s', e, rfl, hs⟩
  · rfl
  · cases e
  · cases e
  · cases e

/-- The plain blocks of S stay plain, their cells of one kind; nothing else changes. -/
structure Sims (S : Nat → Prop) (w w' : World) : Prop where
  fr : Fr S w w'
  plain : ∀ b, S b → Plain w b → Plain w' b
  cell : ∀ (p : Addr) (u : Value), S p.block → w.cell? p = some u → ∃ u', w'.cell? p = some u' ∧ Sim1 u u'
section
variable {S : Nat → Prop} {w w' w2 : World}
theorem Sims.refl (S : Nat → Prop) (w : World) : Sims S w w := ⟨Fr.refl _ _, fun _ _ h => h, fun p u _ h => ⟨u, h, .inl rfl⟩⟩
theorem Sims.trans (h : Sims S w w') (k : Sims S w' w2) : Sims S w w2 := ⟨h.fr.trans k.fr, fun b hb hp => k.plain b hb (h.plain b hb hp), fun p u hp hu => by
  obtain ⟨u', h1, h2⟩ := h.cell p u hp hu
  obtain ⟨u2, h3, h4⟩ := k.cell p u' hp h1
  exact ⟨u2, h3, h2.trans h4⟩⟩
theorem Sims.of (h : Below w.heap.size w w') : Sims S w w' := ⟨Fr.of h, fun b _ ⟨cs, t, hc⟩ => ⟨cs, t, carry h hc⟩, fun p u _ hu => ⟨u, cell_stays (fun hlt => h.block _ hlt) hu, .inl rfl⟩⟩
theorem Sims.set {g o : Nat} {u v : Value} (hg : S g) (hu : w.cell? ⟨g, o, none⟩ = some u) (hs : Sim1 u v) : Sims S w (w.setCell ⟨g, o, none⟩ v) := by
  refine ⟨Fr.set hg _ _, fun b hb ⟨cs, t, hc⟩ => ?_, fun p u' hp hp' => ?_⟩
  · by_cases e : b = g
    · subst e; exact ⟨_, t, set_heap hc _ _⟩
    · exact ⟨cs, t, (set_other e).trans hc⟩
  · by_cases e : (⟨g, o, none⟩ : Addr) = p
    · subst e
      rw [hu] at hp'
      obtain rfl := Option.some.inj hp'
      exact ⟨v, World.cell?_setCell_same _ _ _ hu, hs⟩
    · exact ⟨u', (World.cell?_setCell_other _ _ _ _ e).trans hp', .inl rfl⟩

theorem TIn.head {k n x k' n' x' : Int} {s s' : ByteArray} {ks : List Ky} {vs : List Tr} {A : Option Addr} {L c : Nat} (h : TIn w S (.mk k n s x ks vs) (vV k n s x A L c)) (hk : I64 k' ∧ I64 n' ∧ I64 x' ∧ s'.size ≤ maxLen) : TIn w S (.mk k' n' s' x' ks vs) (vV k' n' s' x' A L c) := by
  cases h with
  | mk _ _ _ _ _ _ A cp C hk0 hl hm hcap hc ht => exact TIn.mk k' n' s' x' ks vs _ _ C hk hl hm hcap hc ht

/-- A tree reads as a tree of one form. -/
theorem TIn.sim {t : Tr} {v : Value} (h : TIn w S t v) (hs : Sims S w w') : ∃ t', nrm t' = nrm t ∧ TIn w' S t' v := by
  induction h with
  | mk k n s x ks vs A cap C hk hl hm hcap hc ht ih =>
    have each : ∀ i, ∃ (y' : Ky) (C' : Array Value) (t' : Tr), ∀ (hi : i < vs.length), (∃ a, A = some a ∧ S a.block ∧ KyAt w' a i y' ∧ C'.size = 5 ∧ ∀ j, j < 5 → w'.cell? (a.add (8 * i + (3 + j))) = C'[j]?) ∧ nrm t' = nrm (vs[i]) ∧ TIn w' S t' (.agg C') := by
      intro i
      by_cases hi : i < vs.length
      · obtain ⟨a, ha, hS, ⟨k0, k1, k2, k3, k4⟩, hsz, hj⟩ := hc i hi
        obtain ⟨t', hn, htin⟩ := ih i hi
        have hadd : ∀ j, S (a.add j).block := fun j => by rw [mem.add_block]; exact hS
        obtain ⟨u0, q0, s0⟩ := hs.cell _ _ (hadd _) k0
        obtain ⟨b', rfl⟩ := s0.bool
        obtain ⟨u1, q1, s1⟩ := hs.cell _ _ (hadd _) k1
        obtain ⟨n', rfl, hn'⟩ := s1.int k3
        obtain ⟨u2, q2, s2⟩ := hs.cell _ _ (hadd _) k2
        obtain ⟨z', rfl, hz'⟩ := s2.text k4
        obtain ⟨kk, nn, ss, xx, kks, vvs⟩ := t'
        obtain ⟨A2, c2, e2, hb2, hin2⟩ := htin.out
        have ec : C i = #[.int .i64 kk, .int .i64 nn, .string ss, .int .i64 xx, .slice A2 vvs.length c2] := by injection e2
        rw [e2] at htin
        have cl : ∀ j, j < 5 → ∃ u, w'.cell? (a.add (8 * i + (3 + j))) = some u ∧ ∃ v, (C i)[j]? = some v ∧ Sim1 v u := fun j hj5 => by
          have := hj j hj5
          rw [Array.getElem?_eq_getElem (by omega)] at this
          obtain ⟨u, h1, h2⟩ := hs.cell _ _ (hadd _) this
          exact ⟨u, h1, _, Array.getElem?_eq_getElem (by omega), h2⟩
        rw [ec] at cl
        obtain ⟨v0, c0, x0, g0, m0⟩ := cl 0 (by omega)
        obtain ⟨v1, c1, x1, g1, m1⟩ := cl 1 (by omega)
        obtain ⟨v2, c2', x2, g2, m2⟩ := cl 2 (by omega)
        obtain ⟨v3, c3, x3, g3, m3⟩ := cl 3 (by omega)
        obtain ⟨v4, c4, x4, g4, m4⟩ := cl 4 (by omega)
        simp at g0 g1 g2 g3 g4
        subst g0 g1 g2 g3 g4
        obtain ⟨p0, rfl, i0⟩ := m0.int hb2.1
        obtain ⟨p1, rfl, i1⟩ := m1.int hb2.2.1
        obtain ⟨p2, rfl, i2⟩ := m2.text hb2.2.2.2
        obtain ⟨p3, rfl, i3⟩ := m3.int hb2.2.2.1
        obtain rfl := m4.slice
        refine ⟨⟨b', n', z'⟩, #[.int .i64 p0, .int .i64 p1, .string p2, .int .i64 p3, .slice A2 vvs.length c2], .mk p0 p1 p2 p3 kks vvs, fun _ => ⟨⟨a, ha, hS, ⟨q0, q1, q2, hn', hz'⟩, rfl, fun j hj5 => ?_⟩, by rw [← hn, nrm_mk, nrm_mk], TIn.head htin ⟨i0, i1, i3, i2⟩⟩⟩
        match j, hj5 with
        | 0, _ => exact c0
        | 1, _ => exact c1
        | 2, _ => exact c2'
        | 3, _ => exact c3
        | 4, _ => exact c4
      · exact ⟨⟨false, 0, ⟨#[]⟩⟩, #[], .mk 0 0 ⟨#[]⟩ 0 [] [], fun h => absurd h hi⟩
    have pick : ∃ (Y : Nat → Ky) (C' : Nat → Array Value) (T' : Nat → Tr), ∀ (i : Nat) (hi : i < vs.length), (∃ a, A = some a ∧ S a.block ∧ KyAt w' a i (Y i) ∧ (C' i).size = 5 ∧ ∀ j, j < 5 → w'.cell? (a.add (8 * i + (3 + j))) = (C' i)[j]?) ∧ nrm (T' i) = nrm (vs[i]) ∧ TIn w' S (T' i) (.agg (C' i)) :=
      ⟨fun i => (each i).choose, fun i => (each i).choose_spec.choose, fun i => (each i).choose_spec.choose_spec.choose, fun i hi => (each i).choose_spec.choose_spec.choose_spec hi⟩
    obtain ⟨Y, C', T', hp⟩ := pick
    have hVl : ((List.range vs.length).map T').length = vs.length := by simp
    refine ⟨.mk k n s x ((List.range vs.length).map Y) ((List.range vs.length).map T'), ?_, ?_⟩
    · rw [nrm_mk, nrm_mk, nrms_map, nrms_map]
      congr 1
      apply List.ext_getElem
      · simp
      · intro i h1 h2
        simp only [List.getElem_map, List.getElem_range]
        exact (hp i (by simpa using h2)).2.1
    · have main := TIn.mk (w := w') (S := S) k n s x ((List.range vs.length).map Y) ((List.range vs.length).map T') A cap C' hk (by simp) (by rw [hVl]; exact hm) (by rw [hVl]; exact hcap) (fun i hi => by
          have hi' : i < vs.length := by simpa using hi
          obtain ⟨a, h1, h2, h3, h4, h5⟩ := (hp i hi').1
          refine ⟨a, h1, h2, ?_, h4, h5⟩
          simp only [List.getElem_map, List.getElem_range]
          exact h3) (fun i hi => by
          simp only [List.getElem_map, List.getElem_range]
          exact (hp i (by simpa using hi)).2.2)
      rw [hVl] at main
      exact main

theorem IsIn.sim {ks : List Ky} {vs : List Tr} {A : Option Addr} (h : IsIn w S ks vs A) (hs : Sims S w w') : ∃ ks' vs', nrms vs' = nrms vs ∧ IsIn w' S ks' vs' A := by
  obtain ⟨t', hn, ht⟩ := (TIn.of (k := 0) (n := 0) (s := ⟨#[]⟩) (x := 0) vs.length ⟨by unfold I64; omega, by unfold I64; omega, by unfold I64; omega, Nat.zero_le _⟩ h ⟨Nat.le_refl _, h.2.1⟩).sim hs
  obtain ⟨k, n, s, x, ks', vs'⟩ := t'
  obtain ⟨A', c', e, -, hin⟩ := ht.out
  simp at e
  obtain ⟨-, -, -, -, rfl, -, -⟩ := e
  exact ⟨ks', vs', nrm_items hn, hin⟩
theorem At8.sim {g o : Nat} {y : Ky} {k n x : Int} {s : ByteArray} {A : Option Addr} {L c : Nat} (h : At8 w ⟨g, o, none⟩ y k n s x A L c) (hs : Sims S w w') (hg : S g) (hy : I64 y.num ∧ y.str.size ≤ maxLen) (hk : I64 k ∧ I64 n ∧ I64 x ∧ s.size ≤ maxLen) :
    ∃ y' k' n' s' x', At8 w' ⟨g, o, none⟩ y' k' n' s' x' A L c ∧ (I64 y'.num ∧ y'.str.size ≤ maxLen) ∧ (I64 k' ∧ I64 n' ∧ I64 x' ∧ s'.size ≤ maxLen) := by
  obtain ⟨u0, q0, s0⟩ := hs.cell _ _ hg h.c0
  obtain ⟨b', rfl⟩ := s0.bool
  obtain ⟨u1, q1, s1⟩ := hs.cell _ _ hg h.c1
  obtain ⟨n1, rfl, h1⟩ := s1.int hy.1
  obtain ⟨u2, q2, s2⟩ := hs.cell _ _ hg h.c2
  obtain ⟨z2, rfl, h2⟩ := s2.text hy.2
  obtain ⟨u3, q3, s3⟩ := hs.cell _ _ hg h.c3
  obtain ⟨n3, rfl, h3⟩ := s3.int hk.1
  obtain ⟨u4, q4, s4⟩ := hs.cell _ _ hg h.c4
  obtain ⟨n4, rfl, h4⟩ := s4.int hk.2.1
  obtain ⟨u5, q5, s5⟩ := hs.cell _ _ hg h.c5
  obtain ⟨z5, rfl, h5⟩ := s5.text hk.2.2.2
  obtain ⟨u6, q6, s6⟩ := hs.cell _ _ hg h.c6
  obtain ⟨n6, rfl, h6⟩ := s6.int hk.2.2.1
  obtain ⟨u7, q7, s7⟩ := hs.cell _ _ hg h.c7
  obtain rfl := s7.slice
  exact ⟨⟨b', n1, z2⟩, n3, n4, z5, n6, ⟨q0, q1, q2, q3, q4, q5, q6, q7⟩, ⟨h1, h2⟩, ⟨h3, h4, h6, h5⟩⟩
end

def MyQ (w : World) (S : Nat → Prop) (m : Int) (e : Ending) (w' : World) : Prop := e = .returned (.int .i64 m) ∧ Sims S w w'
def MyS (t : Tr) : Prop := ∀ (k0 n0 : Int) (s0 : ByteArray) (x0 : Int) (ks0 : List Ky) (vs : List Tr), t = .mk k0 n0 s0 x0 ks0 vs → ∀ (m : Int), 1 ≤ m → m + 7 * cnts vs ≤ 100000000000 → ∀ (w : World) (S : Nat → Prop) (A : Option Addr) (c : Nat) (ks' : List Ky) (vs' : List Tr), nrms vs' = nrms vs → IsIn w S ks' vs' A → (∀ b, S b → Plain w b) →
  Calls Tryz.prog 100 #[.slice A vs.length c, .int .i64 m] w (MyQ w S (m + 7 * cnts vs))

theorem frozen_plain {w : World} {g : Nat} (h : Plain w g) (o : Nat) : w.frozen? ⟨g, o, none⟩ = false := by
  obtain ⟨cs, t, h⟩ := h
  exact (rowc h).2 o

theorem nrms_get {vs vs' : List Tr} (h : nrms vs' = nrms vs) {j : Nat} {t t' : Tr} (ht : vs[j]? = some t) (ht' : vs'[j]? = some t') : nrm t' = nrm t := by
  rw [nrms_map, nrms_map] at h
  have h1 : (vs'.map nrm)[j]? = (vs.map nrm)[j]? := by rw [h]
  rw [List.getElem?_map, List.getElem?_map, ht, ht'] at h1
  exact Option.some.inj h1
theorem nrms_len {vs vs' : List Tr} (h : nrms vs' = nrms vs) : vs'.length = vs.length := by
  rw [nrms_map, nrms_map] at h
  have := congrArg List.length h
  simpa using this

set_option maxHeartbeats 2000000 in
set_option maxRecDepth 100000 in
theorem markAny : ∀ t, MyS t := Tr.ind fun k0 n0 s0 x0 ks0 vs ih => by
  intro k0' n0' s0' x0' ks0' vs1' he
  obtain ⟨-, -, -, -, -, rfl⟩ : k0 = k0' ∧ n0 = n0' ∧ s0 = s0' ∧ x0 = x0' ∧ ks0 = ks0' ∧ vs = vs1' := by simpa using he
  clear he
  intro m hm0 hm1 w S A c ks' vs' hn h hpl
  have HNR := Lib.hid hn
  have HH := Lib.hid h
  have HPL := Lib.hid hpl
  have hlen := nrms_len hn
  obtain ⟨L, HL⟩ : ∃ L, Hid (L = vs.length) := ⟨_, Lib.hid rfl⟩
  have hm : L ≤ maxLen := by rw [HL.out, ← hlen]; exact h.2.1
  have HLE := Lib.hid hlen
  unfold maxLen at hm
  have HM1 := Lib.hid hm1
  obtain ⟨W, HW⟩ : ∃ W : Int, Hid (m + 7 * cnts vs = W) := ⟨_, Lib.hid rfl⟩
  rw [HW.out, ← HL.out]
  clear hm1 hn h hpl hlen
  go_enter Tryz.func100, Tryz.ntmps100
  go_wp2_with (fail)
  go_loopg [1, 5] (L + 1) (fun gk l i wr => ∃ (j : Nat) (q : Int), i = .int .i64 j ∧ l = .int .i64 q ∧ gk + j = L + 1 ∧ j ≤ L ∧ 1 ≤ q ∧ q ≤ 100000000000 ∧ Hid (q = m + 7 * cnts (vs.take j)) ∧ Sims S w wr)
  case atStart => exact ⟨0, m, rfl, rfl, by omega, by omega, hm0, by have := HM1.out; omega, Lib.hid (by simp [cnts_nil]), Sims.refl _ _⟩
  case round =>
    obtain ⟨j, q, rfl, rfl, hgj, hjL, hq0, hq1, HQ, hfr⟩ := hrel
    have HFR := Lib.hid hfr
    clear hfr
    by_cases hlt : j < L
    · obtain ⟨ks2, vs2, hn2, hin2⟩ := HH.out.sim HFR.out
      have hn3 := hn2.trans HNR.out
      have hl2 := nrms_len hn3
      obtain ⟨a, y, k1, n1, s1, x1, ks1, vs1, A1, c1, rfl, hS, hky, hvs, htin, hyb, hkb, hin, hcell⟩ := hin2.item (i := j) (by rw [hl2, ← HL.out]; exact hlt)
      obtain ⟨t, ht⟩ : ∃ t, vs[j]? = some t := ⟨_, List.getElem?_eq_getElem (by rw [← HL.out]; exact hlt)⟩
      have hnt := nrms_get hn3 ht hvs
      obtain ⟨kt, nt, st, xt, kst, vst⟩ := t
      have hni := nrm_items hnt
      have hli := nrms_len hni
      have hcl := cnts_lt ht
      rw [cnt_mk'] at hcl
      have hq7 : q + 7 + 7 * cnts vst ≤ 100000000000 := by have h1 := HQ.out; have h2 := HM1.out; omega
      obtain ⟨Q, HQ2⟩ : ∃ Q : Int, Hid (q + 7 + 7 * cnts vst = Q) := ⟨_, Lib.hid rfl⟩
      obtain ⟨L1, HL1⟩ : ∃ L1, Hid (L1 = vst.length) := ⟨_, Lib.hid rfl⟩
      rw [HQ2.out] at hq7
      have hQ0 : 1 ≤ Q := by rw [← HQ2.out]; omega
      have ihj : ∀ z, z = q + 7 → ∀ w', Sims S wr w' → Calls Tryz.prog 100 #[.slice A1 L1 c1, .int .i64 z] w' (MyQ w' S Q) := fun z hz w' hw' => by
        subst hz
        obtain ⟨ks3, vs3, hn4, hin4⟩ := hin.sim hw'
        have := ih _ (List.mem_of_getElem? ht) kt nt st xt kst vst rfl (q + 7) (by omega) (by rw [HQ2.out]; exact hq7) w' S A1 c1 ks3 vs3 (hn4.trans hni) hin4 (fun b hb => (HFR.out.trans hw').plain b hb (HPL.out b hb))
        rw [HQ2.out] at this
        rw [HL1.out]
        exact this
      have IHJ := Lib.hid ihj
      have HQ3 : Hid (Q = m + 7 * cnts (vs.take (j + 1))) := Lib.hid (by rw [cnts_take ht, cnt_mk', ← HQ2.out, HQ.out]; push_cast; omega)
      have MT2 := markText (q + 2) (by omega) (by omega)
      have MT5 := markText (q + 5) (by omega) (by omega)
      have z2 := mtx_size (q + 2)
      have z5 := mtx_size (q + 5)
      obtain ⟨u2, HU2⟩ : ∃ u, Hid (mtx (q + 2) = u) := ⟨_, Lib.hid rfl⟩
      obtain ⟨u5, HU5⟩ : ∃ u, Hid (mtx (q + 5) = u) := ⟨_, Lib.hid rfl⟩
      unfold MtQ at MT2 MT5
      rw [HU2.out] at MT2 z2
      rw [HU5.out] at MT5 z5
      rw [show q + 2 = q + 1 + 1 by omega] at MT2
      rw [show q + 5 = q + 1 + 1 + 1 + 1 + 1 by omega] at MT5
      rw [hli, ← HL1.out] at hcell
      have hsp : (a.add (j * 8)).spot = none := by
        have := hcell.c0
        unfold World.cell? at this
        split at this
        · cases hs : (a.add (j * 8)).spot with
          | none => rfl
          | some z => rw [hs] at this; simp at this
        · cases this
      obtain ⟨gb, go, sp, hadd⟩ : ∃ gb go sp, a.add (j * 8) = ⟨gb, go, sp⟩ := ⟨_, _, _, rfl⟩
      rw [hadd] at hsp
      simp only at hsp
      subst hsp
      have hSg : S gb := by have := mem.add_block a (j * 8); rw [hadd] at this; simp only at this; rw [this]; exact hS
      rw [hadd] at hcell
      have hpg : Plain wr gb := HFR.out.plain gb hSg (HPL.out gb hSg)
      have HPG := Lib.hid hpg
      have HSG := Lib.hid hSg
      have HC := Lib.hid hcell
      have HYB := Lib.hid hyb
      have HKB := Lib.hid hkb
      have f := frozen_plain hpg
      obtain ⟨p0, p1, p2, p3, p4, p5, p6, p7⟩ := hcell
      clear ihj hin2 hn2 hn3 hl2 hky hvs htin hyb hkb hin hnt hni hli hcl ht hpg hSg hS
      go_wp2_with (fail)
      refine (MT2 _).mono ?_
      rintro e w1 ⟨rfl, hb1⟩
      have hs1 : Sims S wr w1 := ((Sims.set HSG.out HC.out.c0 (.inr (.inl ⟨_, _, rfl, rfl⟩))).trans (Sims.set HSG.out (u := .int .i64 y.num) ((World.cell?_setCell_other _ _ _ _ (by simp)).trans HC.out.c1) (.inr (.inr (.inl ⟨_, _, rfl, rfl, by unfold I64; omega⟩))))).trans (Sims.of hb1)
      have HS1 := Lib.hid hs1
      obtain ⟨y1, k2, n2, s2, x2, hc1, hyb1, hkb1⟩ := HC.out.sim hs1 HSG.out HYB.out HKB.out
      have HC1 := Lib.hid hc1
      have HYB1 := Lib.hid hyb1
      have HKB1 := Lib.hid hkb1
      have f1 := frozen_plain (hs1.plain gb HSG.out HPG.out)
      clear hb1 hs1 f p0 p1 p2 p3 p4 p5 p6 p7 hyb1 hkb1
      obtain ⟨p0, p1, p2, p3, p4, p5, p6, p7⟩ := hc1
      go_wp2_with (fail)
      refine (MT5 _).mono ?_
      rintro e w2 ⟨rfl, hb2⟩
      have hs2 : Sims S w1 w2 := (((Sims.set HSG.out HC1.out.c2 (v := .string u2) (.inr (.inr (.inr ⟨_, _, rfl, rfl, by unfold maxLen; omega⟩)))).trans
        (Sims.set HSG.out (u := .int .i64 k2) (v := .int .i64 (q + 1 + 1 + 1)) ((World.cell?_setCell_other _ _ _ _ (by simp)).trans HC1.out.c3) (.inr (.inr (.inl ⟨_, _, rfl, rfl, by unfold I64; omega⟩))))).trans
        (Sims.set HSG.out (u := .int .i64 n2) (v := .int .i64 (q + 1 + 1 + 1 + 1)) ((World.cell?_setCell_other _ _ _ _ (by simp)).trans ((World.cell?_setCell_other _ _ _ _ (by simp)).trans HC1.out.c4)) (.inr (.inr (.inl ⟨_, _, rfl, rfl, by unfold I64; omega⟩))))).trans (Sims.of hb2)
      have HS2 := Lib.hid (HS1.out.trans hs2)
      obtain ⟨y3, k3, n3, s3, x3, hc2, hyb2, hkb2⟩ := HC1.out.sim hs2 HSG.out HYB1.out HKB1.out
      have HC2 := Lib.hid hc2
      have f2 := frozen_plain (HS2.out.plain gb HSG.out HPG.out)
      clear hb2 hs2 f1 p0 p1 p2 p3 p4 p5 p6 p7 hyb2 hkb2
      obtain ⟨p0, p1, p2, p3, p4, p5, p6, p7⟩ := hc2
      go_wp2_with (fail)
      have HS3 : Hid (∀ v6, v6 = q + 6 → Sims S wr ((w2.setCell ⟨gb, go + 5, none⟩ (.string u5)).setCell ⟨gb, go + 6, none⟩ (.int .i64 v6))) := Lib.hid fun v6 h6 => (HS2.out.trans (Sims.set HSG.out (u := .string s3) HC2.out.c5 (.inr (.inr (.inr ⟨_, _, rfl, rfl, by unfold maxLen; omega⟩))))).trans (Sims.set HSG.out (u := .int .i64 x3) ((World.cell?_setCell_other _ _ _ _ (by simp)).trans HC2.out.c6) (.inr (.inr (.inl ⟨_, _, rfl, rfl, by unfold I64; omega⟩))))
      refine (IHJ.out _ (by omega) _ (HS3.out _ (by omega))).mono ?_
      rintro e w4 ⟨rfl, hs4⟩
      have HS4 := Lib.hid ((HS3.out _ (by omega)).trans hs4)
      clear f2 p0 p1 p2 p3 p4 p5 p6 p7 hs4
      go_wp2_with (fail)
      go_roundg (L - j)
      case rel => exact ⟨j + 1, Q, by go_num, rfl, by omega, by omega, hQ0, hq7, HQ3, HFR.out.trans HS4.out⟩
      case measure => omega
    · obtain rfl : j = L := by omega
      have e : q = W := by rw [HQ.out, ← HW.out, HL.out, List.take_length]
      subst e
      go_wp2_with (fail)
      go_ret
      exact ⟨rfl, HFR.out⟩

/-- The law's marks on a value. -/
theorem markVal (t : Tr) (v : Value) (m : Int) (hm0 : 1 ≤ m) (hm1 : m + 7 * cnt t ≤ 100000000000) (w : World) (S : Nat → Prop) (h : TIn w S t v) (hpl : ∀ b, S b → Plain w b) :
    Calls Tryz.prog 34 #[v, .int .i64 m] w (fun e w' => ∃ q, e = .returned (.int .i64 q) ∧ m ≤ q ∧ q ≤ m + 7 * cnt t ∧ Fr S w w') := by
  obtain ⟨k, n, s, x, ks, vs⟩ := t
  obtain ⟨A, c, rfl, hk, hin⟩ := h.out
  rw [cnt_mk'] at hm1 ⊢
  have M := markAny (.mk k n s x ks vs) k n s x ks vs rfl m hm0 (by push_cast at hm1; omega)
  obtain ⟨L, HL⟩ : ∃ L, Hid (L = vs.length) := ⟨_, Lib.hid rfl⟩
  obtain ⟨Q, HQ⟩ : ∃ Q : Int, Hid (m + 7 * cnts vs = Q) := ⟨_, Lib.hid rfl⟩
  rw [HQ.out, ← HL.out] at M
  rw [← HL.out]
  have HI := Lib.hid hin
  have HPL := Lib.hid hpl
  have HM1 := Lib.hid hm1
  clear h hk hin hpl hm1
  go_enter Tryz.func34, Tryz.ntmps34
  go_wp2_with (fail)
  refine (M _ S A c ks vs rfl (HI.out.below (b1 _ _)) (fun b hb => by obtain ⟨cs, t, hc⟩ := HPL.out b hb; exact ⟨cs, t, carry (b1 _ _) hc⟩)).mono ?_
  rintro e w1 ⟨rfl, hs1⟩
  have HS := Lib.hid hs1
  clear hs1
  go_wp2_with (fail)
  go_ret
  exact ⟨Q, rfl, by rw [← HQ.out]; omega, by rw [← HQ.out]; push_cast; omega, (Fr.of (b1 _ _)).trans HS.out.fr⟩

end Go.Proofs.YtbgffmiffmmohaaGreatDoor.tree

