/-
  The model's draw of two values.
  Conditions: the cursor's block; the bytes of the draw are at most 1048576.
-/
import Derived.Test.YtdglmnmalfpipaaGreatDoorVSDrawA
import Derived.Test.YtdglmnmalfpipaaGreatDoorVSCopyP
import Derived.Test.YtdglmnmalfpipaaGreatDoorVB16
import Derived.Deep.RegionWith
import Derived.Deep.RegionHeld3
import Derived.Deep.DeepCutAuto
namespace Go.Proofs.YtdglmnmalfpipaaGreatDoor.draw
open Go.ChangeShapes Go.WideShapes Go.ChangeAt Go.RowKit tree
set_option linter.unusedVariables false

theorem tin_set {w : World} {R lo j : Nat} {u : Value} {t : Tr} {v : Value} (hR : R < lo) (h : TIn w (Nw lo w) t v) : TIn (w.setCell ⟨R, j, none⟩ u) (Nw lo (w.setCell ⟨R, j, none⟩ u)) t v := h.nw (Nat.le_refl _) fun b hb _ => set_other (by omega)
theorem cur_set {w : World} {R N j : Nat} {u : Value} (hR : N < R) (h : Cur w N) : Cur (w.setCell ⟨R, j, none⟩ u) N := Cur.upto h fun k hk => set_other (by omega)
def DTw (N : Nat) (w : World) (e : Ending) (w' : World) : Prop := ∃ (v v' : Value) (t t' : Tr), e = .returned (.tuple #[v, v']) ∧ TIn w' (Nw w.heap.size w') t v ∧ TIn w' (Nw w.heap.size w') t' v' ∧ tot t ≤ 2000 ∧ tot t' ≤ 2000 ∧ Cur w' N ∧ w.grownBy w' (some N)
abbrev Z5 : Obj := .cells #[.int .i64 0, .int .i64 0, .string ⟨#[]⟩, .int .i64 0, .slice none 0 0] IV (0, 0)

theorem DTw.fin {N P : Nat} {w w4 : World} {T T' : Tr} {k n x k' n' x' : Int} {s s' : ByteArray} {A A' : Option Addr} {L c L' c' : Nat} (hP : w.heap.size = P) (hNP : N < P) (h0 : w4.heap[P]? = some Z5) (h1 : w4.heap[P + 1]? = some Z5) (hG : w.grownBy w4 (some N)) (hC : Cur w4 N)
    (hT : TIn w4 (Nw (P + 2) w4) T (vV k n s x A L c)) (hT' : TIn w4 (Nw (P + 2) w4) T' (vV k' n' s' x' A' L' c')) (hb : tot T ≤ 2000) (hb' : tot T' ≤ 2000) (wF : World)
    (hF : wF = (((((((((w4.setCell ⟨P, 0, none⟩ (.int .i64 k)).setCell ⟨P, 1, none⟩ (.int .i64 n)).setCell ⟨P, 2, none⟩ (.string s)).setCell ⟨P, 3, none⟩ (.int .i64 x)).setCell ⟨P, 4, none⟩ (.slice A L c)).setCell ⟨P + 1, 0, none⟩ (.int .i64 k')).setCell ⟨P + 1, 1, none⟩ (.int .i64 n')).setCell ⟨P + 1, 2, none⟩ (.string s')).setCell ⟨P + 1, 3, none⟩ (.int .i64 x')).setCell ⟨P + 1, 4, none⟩ (.slice A' L' c')) :
    (∀ j, wF.cell? ⟨P, j, none⟩ = #[Value.int .i64 k, .int .i64 n, .string s, .int .i64 x, .slice A L c][j]?) ∧ (∀ j, wF.cell? ⟨P + 1, j, none⟩ = #[Value.int .i64 k', .int .i64 n', .string s', .int .i64 x', .slice A' L' c'][j]?) ∧ DTw N w (.returned (.tuple #[vV k n s x A L c, vV k' n' s' x' A' L' c'])) wF := by
  obtain ⟨e1, o1, g1⟩ := put5 (.int .i64 k) (.int .i64 n) (.string s) (.int .i64 x) (.slice A L c) h0
  obtain ⟨e2, o2, g2⟩ := put5 (.int .i64 k') (.int .i64 n') (.string s') (.int .i64 x') (.slice A' L' c') ((o1 (P + 1) (by omega)).trans h1)
  rw [← hF] at e2 o2 g2
  have hs : ∀ b, b ≠ P → b ≠ P + 1 → wF.heap[b]? = w4.heap[b]? := fun b h h' => (o2 b h').trans (o1 b h)
  refine ⟨(rowc ((o2 P (by omega)).trans e1)).1, (rowc e2).1, _, _, T, T', rfl, hT.nw (by omega) fun b hb _ => hs b (by omega) (by omega), hT'.nw (by omega) fun b hb _ => hs b (by omega) (by omega), hb, hb', Cur.upto hC fun b hb => hs b (by omega) (by omega), g2 w N (by omega) (g1 w N (by omega) hG)⟩

theorem tin_lt {w : World} {lo : Nat} {t : Tr} {v : Value} (h : TIn w (Nw lo w) t v) : TIn w (fun b => Nw lo w b ∧ b < w.heap.size) t v := h.stays (fun b hb => ⟨hb, hb.2.lt⟩) (fun _ _ _ => rfl)
theorem tin_up {w w' : World} {lo Q : Nat} {t : Tr} {v : Value} (h : TIn w (fun b => Nw lo w b ∧ b < Q) t v) (hs : ∀ b, lo ≤ b → b < Q → b < w.heap.size → w'.heap[b]? = w.heap[b]?) : TIn w' (fun b => Nw lo w' b ∧ b < Q) t v :=
  h.stays (fun b hb => ⟨⟨hb.1.1, hb.1.2.same (hs b hb.1.1 hb.2 hb.1.2.lt)⟩, hb.2⟩) fun b hb hl => hs b hb.1.1 hb.2 hl
theorem DTw.drew {N : Nat} {w w' : World} {e : Ending} (h : DTw N w e w') : DTw N w e w'.drew := by
  obtain ⟨v, v', t, t', he, h1, h2, h3, h4, h5, h6⟩ := h
  exact ⟨v, v', t, t', he, TIn.nw (w := w') (w' := w'.drew) (Nat.le_refl _) (fun _ _ _ => rfl) h1, TIn.nw (w := w') (w' := w'.drew) (Nat.le_refl _) (fun _ _ _ => rfl) h2, h3, h4, Cur.upto h5 fun _ _ => rfl, only_trans h6 (grown_of_below ((Below.refl _ _).drew) N)⟩

set_option maxRecDepth 100000 in
set_option maxHeartbeats 4000000 in
theorem drawTwo (N : Nat) (w : World) (hC : Cur w N) : Calls Tryz.prog 99 #[.pointer (some ⟨N, 0, none⟩)] w (DTw N w) := by
  have hN0 := hC.lt
  have HC := Lib.hid hC
  clear hC
  obtain ⟨P, HP⟩ : ∃ P, Hid (w.heap.size = P) := ⟨_, Lib.hid rfl⟩
  have hNP : N < P := by rw [← HP.out]; exact hN0
  go_enter Tryz.func99, Tryz.ntmps99
  go_wp2_with (fail)
  rw [HP.out]
  generalize hw0 : (w.alloc (.cells #[.int .i64 0, .int .i64 0, .string ⟨#[]⟩, .int .i64 0, .slice none 0 0] IV)).alloc (.cells #[.int .i64 0, .int .i64 0, .string ⟨#[]⟩, .int .i64 0, .slice none 0 0] IV) = w0
  have HB0 : Hid (Below w.heap.size w w0) := Lib.hid (hw0 ▸ b2 w _ _)
  have HS0 : Hid (w0.heap.size = P + 2) := Lib.hid (by rw [← hw0, ← HP.out]; simp)
  have H0 : Hid (w0.heap[P]? = some Z5) := Lib.hid (by rw [← hw0, ← HP.out]; exact heap_alloc2_old w _ _)
  have H1 : Hid (w0.heap[P + 1]? = some Z5) := Lib.hid (by rw [← hw0, ← HP.out]; exact heap_alloc2_new w _ _)
  have HC0 : Hid (Cur w0 N) := Lib.hid (HC.out.below HB0.out)
  clear hw0 HC
  refine (drawA N _ HC0.out).mono ?_
  rintro e w1 ⟨k, n, s, x, ks, vs, xs, A, L, c, rfl, hbd, hL, h5, hO, hB, hC1, hg1⟩
  have hz1 := hg1.size
  rw [HS0.out] at hz1
  have HC1 := Lib.hid hC1
  have HG1 := Lib.hid (only_trans (grown_of_below HB0.out N) hg1)
  have HA0 : Hid (w1.heap[P]? = some Z5) := Lib.hid (past hg1 H0.out hNP)
  have HA1 : Hid (w1.heap[P + 1]? = some Z5) := Lib.hid (past hg1 H1.out (by omega))
  obtain ⟨A2, c2, e2, hc2, hin2⟩ := hO.isin (by unfold maxLen; omega)
  obtain ⟨rfl, -, rfl⟩ : A = A2 ∧ L = vs.length ∧ c = c2 := by simpa using e2
  obtain ⟨T, HT⟩ : ∃ T, Hid (Tr.mk k n s x ks vs = T) := ⟨_, Lib.hid rfl⟩
  have HT1 : Hid (TIn w1 (Nw (P + 2) w1) T (vV k n s x A L c)) := Lib.hid (by
    have := TIn.of (k := k) (n := n) (s := s) (x := x) c (by unfold I64 at hbd ⊢; unfold maxLen; omega) hin2 hc2
    rw [HS0.out, HT.out] at this
    rw [hL]
    exact this)
  have HTB : Hid (tot T ≤ 1000) := Lib.hid (by rw [← HT.out, tot_mk]; omega)
  have HLL := Lib.hid hL
  have HKB := Lib.hid hbd
  have hL5 : L ≤ 5 := by omega
  clear hbd hL h5 hO hB hC1 hg1 e2 hc2 hin2 HB0 HS0 H0 H1 HC0
  go_wp2_with (fail)
  obtain ⟨M, HM⟩ : ∃ M, Hid (w1.heap.size = M) := ⟨_, Lib.hid rfl⟩
  rw [HM.out]
  have hPM : P + 2 ≤ M := by rw [← HM.out]; exact hz1
  generalize hw2 : w1.alloc (.cells #[.int .i64 k, .int .i64 n, .string s, .int .i64 x, .slice A L c] IV) = w2
  have hb2 : Below w1.heap.size w1 w2 := hw2 ▸ b1 w1 _
  have hz2 : w2.heap.size = M + 1 := by rw [← hw2, ← HM.out]; simp
  have hm2 : w2.heap[M]? = some (.cells #[.int .i64 k, .int .i64 n, .string s, .int .i64 x, .slice A L c] IV (0, 0)) := by rw [← hw2, ← HM.out]; exact heap_alloc_new w1 _
  refine (once N 3 (by omega) _ (HC1.out.below hb2)).mono ?_
  rintro e w3 ⟨b, rfl, hC3, hg3⟩
  have HC3 := Lib.hid hC3
  have HG3 := Lib.hid (only_trans (only_trans HG1.out (grown_of_below hb2 N)) hg3)
  have HA03 : Hid (w3.heap[P]? = some Z5) := Lib.hid (past hg3 (carry hb2 HA0.out) hNP)
  have HA13 : Hid (w3.heap[P + 1]? = some Z5) := Lib.hid (past hg3 (carry hb2 HA1.out) (by omega))
  have HM3 : Hid (w3.heap[M]? = some (.cells #[.int .i64 k, .int .i64 n, .string s, .int .i64 x, .slice A L c] IV (0, 0))) := Lib.hid (past hg3 hm2 (by omega))
  have HT3 : Hid (TIn w3 (Nw (P + 2) w3) T (vV k n s x A L c)) := Lib.hid ((HT1.out.nwb hb2).nw (Nat.le_refl _) fun b hb hl => hg3.block b hl (ne_of (by omega)))
  have HZ3 : Hid (M < w3.heap.size) := Lib.hid (Array.getElem?_eq_some_iff.1 HM3.out).1
  clear hw2 hb2 hz2 hm2 hC3 hg3 HC1 HG1 HA0 HA1 HT1 hz1
  have q := rowc HM3.out
  have q0 := q.1 0; have q1 := q.1 1; have q2 := q.1 2; have q3 := q.1 3; have q4 := q.1 4
  simp at q0 q1 q2 q3 q4
  clear q
  cases b with
  | false =>
    go_wp2_with (fail)
    go_region_with ((go_at_call 81; refine (drawA N _ ?_).mono ?_; (first | exact HC3.out | exact HC3.out.below ((Below.refl _ _).drew)); rintro e w4 ⟨k', n', s', x', ks', vs', xs', A', L', c', rfl, hbd', hL', h5', hO', hB', hC4, hg4⟩; replace hg4 : w3.grownBy w4 (some N) := (by first | exact hg4 | exact only_trans (grown_of_below ((Below.refl w3.heap.size w3).drew) N) hg4); have HH := Lib.hid (And.intro hbd' (And.intro hL' (And.intro hO' (And.intro hB' (And.intro hC4 hg4))))); have HM4 := Lib.hid (past hg4 HM3.out (by omega)); have q := rowc HM4.out; have q0 := q.1 0; have q1 := q.1 1; have q2 := q.1 2; have q3 := q.1 3; have q4 := q.1 4; simp at q0 q1 q2 q3 q4; have HP4 := Lib.hid (past hg4 HA03.out hNP); have HP5 := Lib.hid (past hg4 HA13.out (by omega)); obtain ⟨r0, f0⟩ := rowc HP4.out; obtain ⟨r1, f1⟩ := rowc HP5.out; clear q hbd' hL' h5' hO' hB' hC4 hg4))
    all_goals
      go_wp2_with (fail)
      obtain ⟨hbd', hL', hO', hB', hC4, hg4⟩ := HH.out
      obtain ⟨A2, c2, e2, hc2, hin2⟩ := hO'.isin (by unfold maxLen; omega)
      obtain ⟨rfl, -, rfl⟩ : A' = A2 ∧ L' = vs'.length ∧ c' = c2 := by simpa using e2
      have hT' := TIn.of (k := k') (n := n') (s := s') (x := x') c' (by unfold I64 at hbd' ⊢; unfold maxLen; omega) hin2 hc2
      rw [← hL'] at hT'
      generalize hwF : World.setCell (World.setCell (World.setCell (World.setCell (World.setCell (World.setCell (World.setCell (World.setCell (World.setCell (World.setCell w4 _ _) _ _) _ _) _ _) _ _) _ _) _ _) _ _) _ _) _ _ = wF
      obtain ⟨rF, rF1, hD⟩ := DTw.fin (T := T) HP.out hNP HP4.out HP5.out (only_trans HG3.out hg4) hC4 (HT3.out.nw (Nat.le_refl _) fun b hb hl => hg4.block b hl (ne_of (by omega))) (hT'.stays (fun b hb => ⟨Nat.le_trans (by have := HZ3.out; show P + 2 ≤ w3.heap.size; omega) hb.1, hb.2⟩) (fun _ _ _ => rfl)) (by have := HTB.out; omega) (by rw [tot_mk]; omega) wF hwF.symm
      clear hwF r0 f0 r1 f1 q0 q1 q2 q3 q4
      exact bodyPost_ret (v := .tuple #[vV k n s x A L c, vV k' n' s' x' A' L' c']) (by simp [results, Tryz.results99, go_sem, rF, rF1]) rfl (by first | exact hD | exact hD.drew)
  | true =>
    go_wp2_with (fail)
    refine (copyP T (by have := HT3.out.fits; have := cnt_tot T this; have := HTB.out; omega) _ _ _ HT3.out).mono ?_
    rintro e w4 ⟨v1, rfl, hv1, hb4, hrow⟩
    obtain ⟨A5, c5, rfl, hO5⟩ := hrow k n s x ks vs HT.out.symm
    clear hrow
    rw [← HLL.out] at hO5 hv1 ⊢
    have HA04 := Lib.hid (carry hb4 HA03.out)
    have HA14 := Lib.hid (carry hb4 HA13.out)
    have HM4 := Lib.hid (carry hb4 HM3.out)
    have HT4 : Hid (TIn w4 (fun b => Nw (P + 2) w4 b ∧ b < w3.heap.size) T (vV k n s x A L c)) := Lib.hid (tin_up (tin_lt HT3.out) fun b _ _ hl => hb4.block b hl)
    have HV4 : Hid (TIn w4 (Nw (P + 2) w4) T (vV k n s x A5 L c5)) := Lib.hid (hv1.stays (fun b hb => ⟨Nat.le_trans (by have := HZ3.out; omega) hb.1, hb.2⟩) (fun _ _ _ => rfl))
    have HO4 := Lib.hid hO5
    have HC4 := Lib.hid (HC3.out.below hb4)
    have HG4 := Lib.hid (only_trans HG3.out (grown_of_below hb4 N))
    have hz4 := hb4.size
    clear hv1 hO5 hb4 q0 q1 q2 q3 q4 HC3 HG3 HA03 HA13 HM3 HT3
    obtain ⟨R, HR⟩ : ∃ R, Hid (w4.heap.size = R) := ⟨_, Lib.hid rfl⟩
    have hMR : M < R := by rw [← HR.out]; have := HZ3.out; omega
    have HOB : Hid (∀ b, (Value.slice A5 L c5).ownBlock = some b → b < R) := Lib.hid (fun b e => by have := (HO4.out.block b e).2; rw [HR.out] at this; exact this)
    obtain ⟨Q3, HQ3⟩ : ∃ Q, Hid (w3.heap.size = Q) := ⟨_, Lib.hid rfl⟩
    rw [HQ3.out] at HO4 HT4
    have hMQ : M < Q3 := by rw [← HQ3.out]; exact HZ3.out
    clear hz4 HZ3
    have q := rowc (heap_alloc_new w4 (.cells #[.int .i64 k, .int .i64 n, .string s, .int .i64 x, .slice A5 L c5] IV))
    rw [HR.out] at q
    have q4 := q.1 4
    simp at q4
    clear q
    have HNW : Hid (w4.alloc (.cells #[.int .i64 k, .int .i64 n, .string s, .int .i64 x, .slice A5 L c5] IV) = w4.alloc (.cells #[.int .i64 k, .int .i64 n, .string s, .int .i64 x, .slice A5 L c5] IV)) := Lib.hid rfl
    have nb := b1 w4 (.cells #[.int .i64 k, .int .i64 n, .string s, .int .i64 x, .slice A5 L c5] IV)
    have HR4 : Hid ((w4.alloc (.cells #[.int .i64 k, .int .i64 n, .string s, .int .i64 x, .slice A5 L c5] IV)).heap[R]? = some (.cells #[.int .i64 k, .int .i64 n, .string s, .int .i64 x, .slice A5 L c5] IV (0, 0))) := Lib.hid (by rw [← HR.out]; exact heap_alloc_new w4 _)
    replace HA04 := Lib.hid (carry nb HA04.out)
    replace HA14 := Lib.hid (carry nb HA14.out)
    replace HM4 := Lib.hid (carry nb HM4.out)
    replace HT4 := Lib.hid (tin_up HT4.out fun b _ _ hl => nb.block b hl)
    replace HV4 := Lib.hid (HV4.out.nwb nb)
    replace HO4 := Lib.hid (HO4.out.below nb)
    replace HC4 := Lib.hid (HC4.out.below nb)
    replace HG4 := Lib.hid (only_trans HG4.out (grown_of_below nb N))
    clear nb
    by_cases h0 : 0 < L
    · have hd : decide ((0 : Int) < (L : Int)) = true := decide_eq_true (by omega)
      go_wp2_with (fail)
      rw [HR.out]
      generalize hw5 : w4.alloc (.cells #[.int .i64 k, .int .i64 n, .string s, .int .i64 x, .slice A5 L c5] IV) = w5 at *
      clear hw5 q4 HNW
      refine (once N 2 (by omega) _ HC4.out).mono ?_
      rintro e w6 ⟨b2, rfl, hC6, hg6⟩
      have HC6 := Lib.hid hC6
      have HG6 := Lib.hid (only_trans HG4.out hg6)
      have HA06 := Lib.hid (past hg6 HA04.out hNP)
      have HA16 := Lib.hid (past hg6 HA14.out (by omega))
      have HM6 := Lib.hid (past hg6 HM4.out (by omega))
      have HR6 := Lib.hid (past hg6 HR4.out (by omega))
      have HT6 := Lib.hid (tin_up HT4.out (w' := w6) fun b hb _ hl => hg6.block b hl (ne_of (by omega)))
      have HV6 := Lib.hid (HV4.out.nw (Nat.le_refl _) fun b hb hl => hg6.block b hl (ne_of (by omega)))
      have HO6 := Lib.hid (HO4.out.above fun b hb hl => hg6.block b hl (ne_of (by omega)))
      clear hC6 hg6 HC4 HG4 HA04 HA14 HM4 HR4 HT4 HV4 HO4
      cases b2 with
      | false =>
        go_wp2_with (fail)
        have q := rowc HM6.out
        have q0 := q.1 0; have q1 := q.1 1; have q2 := q.1 2; have q3 := q.1 3; have q4 := q.1 4
        have p := rowc HR6.out
        have p0 := p.1 0; have p1 := p.1 1; have p2 := p.1 2; have p3 := p.1 3; have p4 := p.1 4
        simp at q0 q1 q2 q3 q4 p0 p1 p2 p3 p4
        obtain ⟨r0, f0⟩ := rowc HA06.out
        obtain ⟨r1, f1⟩ := rowc HA16.out
        clear q p
        go_region
        all_goals
          go_wp2_with (fail)
          generalize hwF : World.setCell (World.setCell (World.setCell (World.setCell (World.setCell (World.setCell (World.setCell (World.setCell (World.setCell (World.setCell w6 _ _) _ _) _ _) _ _) _ _) _ _) _ _) _ _) _ _) _ _ = wF
          obtain ⟨rF, rF1, hD⟩ := DTw.fin (T := T) (T' := T) HP.out hNP HA06.out HA16.out HG6.out HC6.out (TIn.stays (fun b hb => hb.1) (fun _ _ _ => rfl) HT6.out) HV6.out (by have := HTB.out; omega) (by have := HTB.out; omega) wF hwF.symm
          clear hwF r0 f0 r1 f1 q0 q1 q2 q3 q4 p0 p1 p2 p3 p4
          exact bodyPost_ret (v := .tuple #[vV k n s x A L c, vV k n s x A5 L c5]) (by simp [results, Tryz.results99, go_sem, rF, rF1]) rfl (by first | exact hD | exact hD.drew)
      | true =>
        obtain ⟨m, HML⟩ : ∃ m, Hid (L = m + 1) := ⟨L - 1, Lib.hid (by omega)⟩
        have i1 : m < L := by have := HML.out; omega
        have i2 : (L : Int) - 1 = (m : Int) := by have := HML.out; omega
        have i3 : IntKind.i64.wrap (m : Int) = (m : Int) := by rw [IntKind.wrap_i64]; omega
        have HOC : Hid (∃ g cur, A5 = some ⟨g, 0, none⟩ ∧ Q3 ≤ g ∧ w6.heap[g]? = some (.cells cur IE (0, 0)) ∧ L * 8 ≤ cur.size) := Lib.hid (by
          obtain ⟨ys, hy⟩ := HO6.out
          rcases hy.1.2 with ⟨h, -⟩ | ⟨g2, cap, cur, h, hlo, hgc, hnc, hcm, hsz, htk⟩
          · injection h with h1 h2; omega
          · injection h with h1 h2 h3
            exact ⟨g2, cur, h1, (hy.2.1 g2 (by rw [h1]; rfl)).1, hgc, by omega⟩)
        obtain ⟨g, cur, rfl, hgQ, hgc, hcs⟩ := HOC.out
        have HGC := Lib.hid hgc
        have hgR : g < R := HOB.out g rfl
        have HNE : Hid (∀ o, (⟨g, o, none⟩ : Addr) ≠ ⟨R, 4, none⟩) := Lib.hid (fun o e => by injection e with e1; omega)
        clear HOB
        clear hgc HOC
        have p := rowc HR6.out
        have p4 := p.1 4
        simp at p4
        clear p
        go_wp2_with (fail)
        -- region 5
        refine wp_region_held_drew (S := (fun w' => w'.cell? ⟨R, 4, none⟩ = some (.slice (some ⟨g, 0, none⟩) L c5))) (by kernel_rfl) ?_ (fun hHeld => ?_)
        · (try dsimp only) <;> go_keep
        refine wpAnyH_take (i := 0) (v := ?_) rfl (by kernel_rfl) (by kernel_rfl) (by kernel_rfl) (fun _ _ _ h => h) (Or.inl ⟨by kernel_rfl, ?_⟩) (by assumption) ?_
        rotate_left
        · (intro w hSw; (try dsimp only at hSw); go_split_ands; go_simp; try (with_reducible rfl))
        try simp only [Act.put, List.setIfInBounds_toArray, List.set_cons_zero, List.set_cons_succ, List.getElem_toArray, List.getElem_cons_zero]
        refine wpAnyH_take (i := 1) (v := ?_) rfl (by kernel_rfl) (by kernel_rfl) (by kernel_rfl) (fun _ _ _ h => h) (Or.inl ⟨by kernel_rfl, ?_⟩) (by assumption) ?_
        rotate_left
        · (intro w hSw; (try dsimp only at hSw); go_split_ands; go_simp; try (with_reducible rfl))
        try simp only [Act.put, List.setIfInBounds_toArray, List.set_cons_zero, List.set_cons_succ, List.getElem_toArray, List.getElem_cons_zero, List.getElem_cons_succ]
        refine wpAnyH_take (i := 2) (v := ?_) rfl (by kernel_rfl) (by kernel_rfl) (by kernel_rfl) (fun _ _ _ h => h) (Or.inl ⟨by kernel_rfl, ?_⟩) (by assumption) ?_
        rotate_left
        · (intro w hSw; (try dsimp only at hSw); go_split_ands; go_simp; try (with_reducible rfl))
        try simp only [Act.put, List.setIfInBounds_toArray, List.set_cons_zero, List.set_cons_succ, List.getElem_toArray, List.getElem_cons_zero, List.getElem_cons_succ]
        refine wpAnyH_take (i := 3) (v := ?_) rfl (by kernel_rfl) (by kernel_rfl) (by kernel_rfl) (fun _ _ _ h => h) (Or.inl ⟨by kernel_rfl, ?_⟩) (by assumption) ?_
        rotate_left
        · (intro w hSw; (try dsimp only at hSw); go_split_ands; go_simp; try (with_reducible rfl))
        try simp only [Act.put, List.setIfInBounds_toArray, List.set_cons_zero, List.set_cons_succ, List.getElem_toArray, List.getElem_cons_zero, List.getElem_cons_succ]
        refine wpAnyH_take (i := 4) (v := ?_) rfl (by kernel_rfl) (by kernel_rfl) (by kernel_rfl) (fun _ _ _ h => h) (Or.inl ⟨by kernel_rfl, ?_⟩) (by assumption) ?_
        rotate_left
        · (intro w hSw; (try dsimp only at hSw); go_split_ands; go_simp; try (with_reducible rfl))
        try simp only [Act.put, List.setIfInBounds_toArray, List.set_cons_zero, List.set_cons_succ, List.getElem_toArray, List.getElem_cons_zero, List.getElem_cons_succ]
        refine wpAnyH_take (i := 5) (v := ?_) rfl (by kernel_rfl) (by kernel_rfl) (by kernel_rfl) (fun _ _ _ h => h) (Or.inl ⟨by kernel_rfl, ?_⟩) (by assumption) ?_
        rotate_left
        · (intro w hSw; (try dsimp only at hSw); go_split_ands; go_simp; try (with_reducible rfl))
        try simp only [Act.put, List.setIfInBounds_toArray, List.set_cons_zero, List.set_cons_succ, List.getElem_toArray, List.getElem_cons_zero, List.getElem_cons_succ]
        refine wpAnyH_take (i := 6) (v := ?_) rfl (by kernel_rfl) (by kernel_rfl) (by kernel_rfl) (fun _ _ _ h => h) (Or.inl ⟨by kernel_rfl, ?_⟩) (by assumption) ?_
        rotate_left
        · (intro w hSw; (try dsimp only at hSw); go_split_ands; go_simp; try (with_reducible rfl))
        try simp only [Act.put, List.setIfInBounds_toArray, List.set_cons_zero, List.set_cons_succ, List.getElem_toArray, List.getElem_cons_zero, List.getElem_cons_succ]
        refine wpAnyH_ready (rs := [7]) (by kernel_rfl) (by simp) ?_
        refine AllReadyH.cons rfl (fun K hK => ?_) AllReadyH.nil
        go_simp
        go_at_call 130
        refine (scalar N _ (HC6.out.below ((Below.refl _ _).drew))).mono ?_
        rintro e w7 ⟨k', n', s', rfl, hbd', hC7, hg7⟩
        replace hg7 : w6.grownBy w7 (some N) := only_trans (grown_of_below ((Below.refl w6.heap.size w6).drew) N) hg7
        have HH := Lib.hid (And.intro hbd' (And.intro hC7 hg7))
        have HR7 := Lib.hid (past hg7 HR6.out (by omega))
        have HGC7 := Lib.hid (past hg7 HGC.out (by omega))
        have p := rowc HR7.out
        have p4 := p.1 4
        simp at p4
        obtain ⟨rg, fg⟩ := rowc HGC7.out
        have gx : ∀ q, q < 8 → ∃ u, w7.cell? ⟨g, m * 8 + q, none⟩ = some u := (fun q hq => ⟨_, (rg _).trans (Array.getElem?_eq_getElem (by have := HML.out; omega))⟩)
        obtain ⟨y3, z3⟩ := gx 3 (by omega)
        obtain ⟨y4, z4⟩ := gx 4 (by omega)
        obtain ⟨y5, z5⟩ := gx 5 (by omega)
        obtain ⟨y6, z6⟩ := gx 6 (by omega)
        obtain ⟨y7, z7⟩ := gx 7 (by omega)
        clear gx rg p hbd' hC7 hg7
        try go_wp2_with (fail)
        refine hK.out _ _ ?_ (fun hHeld => ?_)
        · ((try dsimp only); first | with_reducible exact p4 | ((iterate 5 rw [World.cell?_setCell_other _ _ _ _ (HNE.out _)]); exact p4))
        clear hK K
        try simp only [Act.put, List.setIfInBounds_toArray, List.set_cons_zero, List.set_cons_succ, List.getElem_toArray, List.getElem_cons_zero, List.getElem_cons_succ]
        refine wpAnyH_take (i := 8) (v := ?_) rfl (by kernel_rfl) (by kernel_rfl) (by kernel_rfl) (fun _ _ _ h => h) (Or.inl ⟨by kernel_rfl, ?_⟩) (by assumption) ?_
        rotate_left
        · (intro w hSw; (try dsimp only at hSw); go_split_ands; go_simp; try (with_reducible rfl))
        try simp only [Act.put, List.setIfInBounds_toArray, List.set_cons_zero, List.set_cons_succ, List.getElem_toArray, List.getElem_cons_zero, List.getElem_cons_succ]
        refine wpAnyH_take (i := 9) (v := ?_) rfl (by kernel_rfl) (by kernel_rfl) (by kernel_rfl) (fun _ _ _ h => h) (Or.inl ⟨by kernel_rfl, ?_⟩) (by assumption) ?_
        rotate_left
        · (intro w hSw; (try dsimp only at hSw); go_split_ands; go_simp; try (with_reducible rfl))
        try simp only [Act.put, List.setIfInBounds_toArray, List.set_cons_zero, List.set_cons_succ, List.getElem_toArray, List.getElem_cons_zero, List.getElem_cons_succ]
        refine wpAnyH_ready (rs := [10]) (by kernel_rfl) (by simp) ?_
        refine AllReadyH.cons rfl (fun K hK => ?_) AllReadyH.nil
        go_simp
        refine hK.out _ _ ?_ (fun hHeld => ?_)
        · ((try dsimp only); first | with_reducible exact p4 | ((iterate 5 rw [World.cell?_setCell_other _ _ _ _ (HNE.out _)]); exact p4))
        clear hK K
        try simp only [Act.put, List.setIfInBounds_toArray, List.set_cons_zero, List.set_cons_succ, List.getElem_toArray, List.getElem_cons_zero, List.getElem_cons_succ]
        refine wpAnyH_done (by kernel_rfl) ?_ _
        go_wp2_with (fail)
        generalize hw8 : World.setCell (World.setCell (World.setCell (World.setCell (World.setCell w7 _ _) _ _) _ _) _ _) _ _ = w8
        obtain ⟨hbd', hC7, hg7⟩ := HH.out
        have hoth : ∀ b, b ≠ g → w8.heap[b]? = w7.heap[b]? := fun b hb => by rw [← hw8, set_other hb, set_other hb, set_other hb, set_other hb, set_other hb]
        have hg8 : w8.heap[g]? = some (.cells (set5 cur (m * 8 + 3) (.int .i64 k') (.int .i64 n') (.string s') (.int .i64 0) (.slice none 0 0)) IE (0, 0)) := by
          rw [← hw8]
          exact set_heap (set_heap (set_heap (set_heap (set_heap HGC7.out _ _) _ _) _ _) _ _) _ _
        have hgr8 : w.grownBy w8 (some N) := by
          rw [← hw8]
          iterate 5 refine grown_set (by have := HP.out; omega) ?_
          exact only_trans HG6.out hg7
        have HO7 : OwQ w7 Q3 (.slice (some ⟨g, 0, none⟩) L c5) ks vs := HO6.out.above fun b hb hl => hg7.block b hl (ne_of (by omega))
        obtain ⟨ys, hy⟩ := HO7
        obtain ⟨xs', ho8⟩ := OwR.setv hy HGC7.out (k := k') (n := n') (x := 0) (s := s') (by unfold I64 maxLen; omega) hg8 (fun b hb _ => hoth b hb) (i := m) (by rw [← HLL.out]; exact i1)
        obtain ⟨A9, c9, e9, hc9, hin9⟩ := ho8.isinP (by rw [List.length_set, ← HLL.out]; unfold maxLen; omega)
        obtain ⟨rfl, -, rfl⟩ : some (⟨g, 0, none⟩ : Addr) = A9 ∧ L = (vs.set m (.mk k' n' s' 0 [] [])).length ∧ c5 = c9 := by simpa using e9
        have hT9 := TIn.of (k := k) (n := n) (s := s) (x := x) c5 (by have := HKB.out; unfold I64 at this ⊢; unfold maxLen; omega) hin9 hc9
        rw [List.length_set, ← HLL.out] at hT9
        have HV8 : Hid (TIn w8 (Nw (P + 2) w8) (.mk k n s x ks (vs.set m (.mk k' n' s' 0 [] []))) (vV k n s x (some ⟨g, 0, none⟩) L c5)) := Lib.hid (hT9.stays (fun b hb => ⟨by have := hb.1; omega, by
          by_cases e : b = g
          · subst e; exact ⟨_, _, hg8⟩
          · exact hb.2.same (hoth b e)⟩) (fun _ _ _ => rfl))
        have HTB8 : Hid (tot (.mk k n s x ks (vs.set m (.mk k' n' s' 0 [] []))) ≤ 2000) := Lib.hid (by
          have h1 := HTB.out
          rw [← HT.out, tot_mk] at h1
          have h2 := tots_setv ks vs m (.mk k' n' s' 0 [] [])
          have h3 : tot (.mk k' n' s' 0 [] []) = s'.size := by rw [tot_mk]; simp [tots]
          rw [tot_mk, List.length_set]
          omega)
        have HA08 := Lib.hid ((hoth P (by omega)).trans (past hg7 HA06.out hNP))
        have HA18 := Lib.hid ((hoth (P + 1) (by omega)).trans (past hg7 HA16.out (by omega)))
        have HM8 := Lib.hid ((hoth M (by omega)).trans (past hg7 HM6.out (by omega)))
        have HR8 := Lib.hid ((hoth R (by omega)).trans HR7.out)
        have HC8 : Hid (Cur w8 N) := Lib.hid (Cur.upto hC7 fun b hb => hoth b (by omega))
        have HG8 := Lib.hid hgr8
        have HT8 : Hid (TIn w8 (fun b => Nw (P + 2) w8 b ∧ b < Q3) T (vV k n s x A L c)) := Lib.hid (tin_up (tin_up HT6.out (w' := w7) fun b h1 _ hl => hg7.block b hl (ne_of (by omega))) fun b _ h2 _ => hoth b (by omega))
        clear hw8 hbd' hC7 hg7 hoth hg8 hgr8 hy ho8 e9 hc9 hin9 hT9 p4 y3 z3 y4 z4 y5 z5 y6 z6 y7 z7 fg HH HR7 HGC7
        have q := rowc HM8.out
        have q0 := q.1 0; have q1 := q.1 1; have q2 := q.1 2; have q3 := q.1 3; have q4 := q.1 4
        have p := rowc HR8.out
        have p0 := p.1 0; have p1 := p.1 1; have p2 := p.1 2; have p3 := p.1 3; have p4 := p.1 4
        simp at q0 q1 q2 q3 q4 p0 p1 p2 p3 p4
        obtain ⟨r0, f0⟩ := rowc HA08.out
        obtain ⟨r1, f1⟩ := rowc HA18.out
        clear q p
        go_region
        all_goals
          go_wp2_with (fail)
          generalize hwF : World.setCell (World.setCell (World.setCell (World.setCell (World.setCell (World.setCell (World.setCell (World.setCell (World.setCell (World.setCell w8 _ _) _ _) _ _) _ _) _ _) _ _) _ _) _ _) _ _) _ _ = wF
          obtain ⟨rF, rF1, hD⟩ := DTw.fin (T := T) (T' := .mk k n s x ks (vs.set m (.mk k' n' s' 0 [] []))) HP.out hNP HA08.out HA18.out HG8.out HC8.out (TIn.stays (fun b hb => hb.1) (fun _ _ _ => rfl) HT8.out) HV8.out (by have := HTB.out; omega) HTB8.out wF hwF.symm
          clear hwF r0 f0 r1 f1 q0 q1 q2 q3 q4 p0 p1 p2 p3 p4
          exact bodyPost_ret (v := .tuple #[vV k n s x A L c, vV k n s x (some ⟨g, 0, none⟩) L c5]) (by simp [results, Tryz.results99, go_sem, rF, rF1]) rfl (by first | exact hD | exact hD.drew)
        -- region 5 ends
    · obtain rfl : L = 0 := by omega
      go_wp2_with (fail)
      rw [HR.out]
      generalize hw5 : w4.alloc (.cells #[.int .i64 k, .int .i64 n, .string s, .int .i64 x, .slice A5 0 c5] IV) = w5 at *
      clear hw5 q4 HNW
      have q := rowc HM4.out
      have q0 := q.1 0; have q1 := q.1 1; have q2 := q.1 2; have q3 := q.1 3; have q4 := q.1 4
      have p := rowc HR4.out
      have p0 := p.1 0; have p1 := p.1 1; have p2 := p.1 2; have p3 := p.1 3; have p4 := p.1 4
      simp at q0 q1 q2 q3 q4 p0 p1 p2 p3 p4
      obtain ⟨r0, f0⟩ := rowc HA04.out
      obtain ⟨r1, f1⟩ := rowc HA14.out
      clear q p
      go_region
      all_goals
        go_wp2_with (fail)
        generalize hwF : World.setCell (World.setCell (World.setCell (World.setCell (World.setCell (World.setCell (World.setCell (World.setCell (World.setCell (World.setCell w5 _ _) _ _) _ _) _ _) _ _) _ _) _ _) _ _) _ _) _ _ = wF
        obtain ⟨rF, rF1, hD⟩ := DTw.fin (T := T) (T' := T) HP.out hNP HA04.out HA14.out HG4.out HC4.out (TIn.stays (fun b hb => hb.1) (fun _ _ _ => rfl) HT4.out) HV4.out (by have := HTB.out; omega) (by have := HTB.out; omega) wF hwF.symm
        clear hwF r0 f0 r1 f1 q0 q1 q2 q3 q4 p0 p1 p2 p3 p4
        exact bodyPost_ret (v := .tuple #[vV k n s x A 0 c, vV k n s x A5 0 c5]) (by simp [results, Tryz.results99, go_sem, rF, rF1]) rfl (by first | exact hD | exact hD.drew)

end Go.Proofs.YtdglmnmalfpipaaGreatDoor.draw

