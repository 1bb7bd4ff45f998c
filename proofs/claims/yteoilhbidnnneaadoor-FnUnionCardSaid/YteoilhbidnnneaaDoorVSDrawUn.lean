/-
  The model's draw of FnUnion: two arrays.
  Conditions: the bytes of the draw are at most 1048576.
-/
import Derived.Test.YteoilhbidnnneaaDoorVSDrawR
namespace Go.Proofs.YteoilhbidnnneaaDoor.draw
open Go.ChangeShapes Go.WideShapes Go.ChangeAt Go.RowKit tree
set_option linter.unusedVariables false

def DUn (w : World) (e : Ending) (w' : World) : Prop := ∃ (v v' : Value) (t t' : Tr), e = .returned (.tuple #[v, v']) ∧ TIn w' (Nw w.heap.size w') t v ∧ TIn w' (Nw w.heap.size w') t' v' ∧ tot t ≤ 2000 ∧ tot t' ≤ 2000 ∧ Below w.heap.size w w'
theorem DUn.fin {P : Nat} {w w4 : World} {T T' : Tr} {k n x k' n' x' : Int} {s s' : ByteArray} {A A' : Option Addr} {L c L' c' : Nat} (hP : w.heap.size = P) (h0 : w4.heap[P]? = some Z5r) (h1 : w4.heap[P + 1]? = some Z5r) (hB : Below w.heap.size w w4)
    (hT : TIn w4 (Nw (P + 2) w4) T (vV k n s x A L c)) (hT' : TIn w4 (Nw (P + 2) w4) T' (vV k' n' s' x' A' L' c')) (hb : tot T ≤ 2000) (hb' : tot T' ≤ 2000) (wF : World)
    (hF : wF = (((((((((w4.setCell ⟨P, 0, none⟩ (.int .i64 k)).setCell ⟨P, 1, none⟩ (.int .i64 n)).setCell ⟨P, 2, none⟩ (.string s)).setCell ⟨P, 3, none⟩ (.int .i64 x)).setCell ⟨P, 4, none⟩ (.slice A L c)).setCell ⟨P + 1, 0, none⟩ (.int .i64 k')).setCell ⟨P + 1, 1, none⟩ (.int .i64 n')).setCell ⟨P + 1, 2, none⟩ (.string s')).setCell ⟨P + 1, 3, none⟩ (.int .i64 x')).setCell ⟨P + 1, 4, none⟩ (.slice A' L' c')) :
    (∀ j, wF.cell? ⟨P, j, none⟩ = #[Value.int .i64 k, .int .i64 n, .string s, .int .i64 x, .slice A L c][j]?) ∧ (∀ j, wF.cell? ⟨P + 1, j, none⟩ = #[Value.int .i64 k', .int .i64 n', .string s', .int .i64 x', .slice A' L' c'][j]?) ∧ DUn w (.returned (.tuple #[vV k n s x A L c, vV k' n' s' x' A' L' c'])) wF := by
  have hBF : Below w.heap.size w wF := by
    rw [hF]
    iterate 5 refine Below.setCell ?_ (show w.heap.size ≤ P + 1 by omega) _
    iterate 5 refine Below.setCell ?_ (show w.heap.size ≤ P by omega) _
    exact hB
  obtain ⟨e1, o1, g1⟩ := put5 (.int .i64 k) (.int .i64 n) (.string s) (.int .i64 x) (.slice A L c) h0
  obtain ⟨e2, o2, g2⟩ := put5 (.int .i64 k') (.int .i64 n') (.string s') (.int .i64 x') (.slice A' L' c') ((o1 (P + 1) (by omega)).trans h1)
  rw [← hF] at e2 o2 g2
  have hs : ∀ b, b ≠ P → b ≠ P + 1 → wF.heap[b]? = w4.heap[b]? := fun b h h' => (o2 b h').trans (o1 b h)
  exact ⟨(rowc ((o2 P (by omega)).trans e1)).1, (rowc e2).1, _, _, T, T', rfl, hT.nw (by omega) fun b hb _ => hs b (by omega) (by omega), hT'.nw (by omega) fun b hb _ => hs b (by omega) (by omega), hb, hb', hBF⟩

set_option maxRecDepth 100000 in
theorem drawUnion (A0 : Option Addr) (n0 c0 : Nat) (hn : n0 ≤ 1048576) (w : World) (hA : Code w w.heap.size A0 n0) : Calls Tryd.prog 8 #[.slice A0 n0 c0] w (DUn w) := by
  have HA := Lib.hid hA
  clear hA
  obtain ⟨P, HP⟩ : ∃ P, Hid (w.heap.size = P) := ⟨_, Lib.hid rfl⟩
  go_enter Tryd.func8, Tryd.ntmps8
  go_wp2_with (fail)
  rw [HP.out]
  generalize hw0 : (w.alloc (.cells #[.int .i64 0, .int .i64 0, .string ⟨#[]⟩, .int .i64 0, .slice none 0 0] IV)).alloc (.cells #[.int .i64 0, .int .i64 0, .string ⟨#[]⟩, .int .i64 0, .slice none 0 0] IV) = w0
  have HB0 : Hid (Below w.heap.size w w0) := Lib.hid (hw0 ▸ b2 w _ _)
  have HS0 : Hid (w0.heap.size = P + 2) := Lib.hid (by rw [← hw0, ← HP.out]; simp)
  have H0 : Hid (w0.heap[P]? = some Z5r) := Lib.hid (by rw [← hw0, ← HP.out]; exact heap_alloc2_old w _ _)
  have H1 : Hid (w0.heap[P + 1]? = some Z5r) := Lib.hid (by rw [← hw0, ← HP.out]; exact heap_alloc2_new w _ _)
  have hcode : Code w0 w0.heap.size A0 n0 := HA.out.later HB0.out
  clear hw0
  refine (new A0 n0 c0 hn _ hcode).mono ?_
  rintro e w1 ⟨N, rfl, hN, hC1, hb1⟩
  rw [HS0.out] at hN
  have HC1 := Lib.hid hC1
  have HB1 := Lib.hid (bs HB0.out hb1)
  have HA0 := Lib.hid (carry hb1 H0.out)
  have HA1 := Lib.hid (carry hb1 H1.out)
  have HZ1 : Hid (P + 2 ≤ w1.heap.size) := Lib.hid (by rw [← HS0.out]; exact hb1.size)
  clear hC1 hb1 hcode HB0 HS0 H0 H1
  go_wp2_with (fail)
  have hN1 := HC1.out.lt
  refine (drawArr N _ HC1.out).mono ?_
  rintro e w2 ⟨v, t, rfl, hT, hb, hC2, hg2⟩
  obtain ⟨k, n, s, x, ks, vs⟩ := t
  obtain ⟨A, c, rfl, -, -⟩ := hT.out
  obtain ⟨L, HL⟩ : ∃ L, Hid (vs.length = L) := ⟨_, Lib.hid rfl⟩
  rw [HL.out] at hT ⊢
  have HH1 := Lib.hid (And.intro hT hb)
  have HC2 := Lib.hid hC2
  have HZ2 : Hid (w1.heap.size ≤ w2.heap.size) := Lib.hid hg2.size
  have HB2 := Lib.hid (below_of HB1.out hg2 (by have := HP.out; omega) HB1.out.size)
  have HA02 := Lib.hid ((hg2.block P (Array.getElem?_eq_some_iff.1 HA0.out).1 (by intro h; injection h; omega)).trans HA0.out)
  have HA12 := Lib.hid ((hg2.block (P + 1) (Array.getElem?_eq_some_iff.1 HA1.out).1 (by intro h; injection h; omega)).trans HA1.out)
  clear hT hb hC2 hg2 HC1
  go_wp2_with (fail)
  refine (drawArr N _ HC2.out).mono ?_
  rintro e w3 ⟨v', t', rfl, hT', hb', hC3, hg3⟩
  obtain ⟨k', n', s', x', ks', vs'⟩ := t'
  obtain ⟨A', c', rfl, -, -⟩ := hT'.out
  obtain ⟨L', HL'⟩ : ∃ L, Hid (vs'.length = L) := ⟨_, Lib.hid rfl⟩
  rw [HL'.out] at hT' ⊢
  have hz1 := HZ1.out
  have hz2 := HZ2.out
  have HH : Hid (TIn w3 (Nw (P + 2) w3) (.mk k n s x ks vs) (vV k n s x A L c) ∧ TIn w3 (Nw (P + 2) w3) (.mk k' n' s' x' ks' vs') (vV k' n' s' x' A' L' c') ∧ tot (.mk k n s x ks vs) ≤ 2000 ∧ tot (.mk k' n' s' x' ks' vs') ≤ 2000) := Lib.hid ⟨HH1.out.1.nw (by omega) fun b hb hl => hg3.block b hl (by intro h; injection h; omega), hT'.nw (by omega) fun _ _ _ => rfl, HH1.out.2, hb'⟩
  have HB3 := Lib.hid (below_of HB2.out hg3 (by have := HP.out; omega) HB2.out.size)
  have HA03 := Lib.hid ((hg3.block P (Array.getElem?_eq_some_iff.1 HA02.out).1 (by intro h; injection h; omega)).trans HA02.out)
  have HA13 := Lib.hid ((hg3.block (P + 1) (Array.getElem?_eq_some_iff.1 HA12.out).1 (by intro h; injection h; omega)).trans HA12.out)
  obtain ⟨r0, f0⟩ := rowc HA03.out
  obtain ⟨r1, f1⟩ := rowc HA13.out
  clear hT' hb' hC3 hg3 HC2 HH1 hz1 hz2
  go_wp2_with (fail)
  generalize hwF : World.setCell (World.setCell (World.setCell (World.setCell (World.setCell (World.setCell (World.setCell (World.setCell (World.setCell (World.setCell w3 _ _) _ _) _ _) _ _) _ _) _ _) _ _) _ _) _ _) _ _ = wF
  obtain ⟨hT, hT', hb, hb'⟩ := HH.out
  obtain ⟨rF, rF1, hD⟩ := DUn.fin HP.out HA03.out HA13.out HB3.out hT hT' hb hb' wF hwF.symm
  clear hwF r0 f0 r1 f1
  exact bodyPost_ret (v := .tuple #[vV k n s x A L c, vV k' n' s' x' A' L' c']) (by simp [results, Tryd.results8, go_sem, rF, rF1]) rfl hD

end Go.Proofs.YteoilhbidnnneaaDoor.draw

