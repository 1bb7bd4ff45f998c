/-
  The model's draw of FnArrays: an array, a key, a value.
  Conditions: the bytes of the draw are at most 1048576.
-/
import Derived.Test.YtlbkbcafkjgckaaDoorAsSDrawR
namespace Go.Proofs.YtlbkbcafkjgckaaDoor.draw
open Go.ChangeShapes Go.WideShapes Go.ChangeAt Go.RowKit tree
set_option linter.unusedVariables false

def DSk (w : World) (e : Ending) (w' : World) : Prop := ∃ (v vx : Value) (t u : Tr) (y : Ky), e = .returned (.tuple #[v, kyV y, vx]) ∧ TIn w' (Nw w.heap.size w') t v ∧ TIn w' (Nw w.heap.size w') u vx ∧ tot t ≤ 2000 ∧ tot u ≤ 2000 ∧ (I64 y.num ∧ y.str.size ≤ 2) ∧ Below w.heap.size w w'
abbrev K3 : Obj := .cells #[.bool false, .int .i64 0, .string ⟨#[]⟩] 28 (0, 0)
theorem al3' (w : World) (c0 c1 c2 : Array Value) (t0 t1 t2 : TypeId) (W : World) (hW : ((w.alloc (.cells c0 t0)).alloc (.cells c1 t1)).alloc (.cells c2 t2) = W) :
    W.heap[w.heap.size]? = some (.cells c0 t0 (0, 0)) ∧ W.heap[w.heap.size + 1]? = some (.cells c1 t1 (0, 0)) ∧ W.heap[w.heap.size + 2]? = some (.cells c2 t2 (0, 0)) ∧ W.heap.size = w.heap.size + 3 ∧ Below w.heap.size w W := by
  subst hW
  refine ⟨keepAlloc (keepAlloc (heap_alloc_new w _)), keepAlloc ?_, ?_, by simp, b3 w _ _ _⟩
  · have := heap_alloc_new (w.alloc (.cells c0 t0)) (.cells c1 t1)
    rwa [show (w.alloc (.cells c0 t0)).heap.size = w.heap.size + 1 by simp] at this
  · have := heap_alloc_new ((w.alloc (.cells c0 t0)).alloc (.cells c1 t1)) (.cells c2 t2)
    rwa [show ((w.alloc (.cells c0 t0)).alloc (.cells c1 t1)).heap.size = w.heap.size + 2 by simp] at this
theorem DSk.fin {P : Nat} {w w4 : World} {T U : Tr} {y : Ky} {k n x k' n' x' : Int} {s s' : ByteArray} {A A' : Option Addr} {L c L' c' : Nat} (hP : w.heap.size = P) (h0 : w4.heap[P]? = some Z5r) (h1 : w4.heap[P + 1]? = some K3) (h2 : w4.heap[P + 2]? = some Z5r) (hB : Below w.heap.size w w4)
    (hT : TIn w4 (Nw (P + 3) w4) T (vV k n s x A L c)) (hU : TIn w4 (Nw (P + 3) w4) U (vV k' n' s' x' A' L' c')) (hb : tot T ≤ 2000) (hb' : tot U ≤ 2000) (hy : I64 y.num ∧ y.str.size ≤ 2) (wF : World)
    (hF : wF = ((((((((((((w4.setCell ⟨P, 0, none⟩ (.int .i64 k)).setCell ⟨P, 1, none⟩ (.int .i64 n)).setCell ⟨P, 2, none⟩ (.string s)).setCell ⟨P, 3, none⟩ (.int .i64 x)).setCell ⟨P, 4, none⟩ (.slice A L c)).setCell ⟨P + 1, 0, none⟩ (.bool y.text)).setCell ⟨P + 1, 1, none⟩ (.int .i64 y.num)).setCell ⟨P + 1, 2, none⟩ (.string y.str)).setCell ⟨P + 2, 0, none⟩ (.int .i64 k')).setCell ⟨P + 2, 1, none⟩ (.int .i64 n')).setCell ⟨P + 2, 2, none⟩ (.string s')).setCell ⟨P + 2, 3, none⟩ (.int .i64 x')).setCell ⟨P + 2, 4, none⟩ (.slice A' L' c')) :
    (∀ j, wF.cell? ⟨P, j, none⟩ = #[Value.int .i64 k, .int .i64 n, .string s, .int .i64 x, .slice A L c][j]?) ∧ (∀ j, wF.cell? ⟨P + 1, j, none⟩ = #[Value.bool y.text, .int .i64 y.num, .string y.str][j]?) ∧ (∀ j, wF.cell? ⟨P + 2, j, none⟩ = #[Value.int .i64 k', .int .i64 n', .string s', .int .i64 x', .slice A' L' c'][j]?) ∧ DSk w (.returned (.tuple #[vV k n s x A L c, kyV y, vV k' n' s' x' A' L' c'])) wF := by
  have hBF : Below w.heap.size w wF := by
    rw [hF]
    iterate 5 refine Below.setCell ?_ (show w.heap.size ≤ P + 2 by omega) _
    iterate 3 refine Below.setCell ?_ (show w.heap.size ≤ P + 1 by omega) _
    iterate 5 refine Below.setCell ?_ (show w.heap.size ≤ P by omega) _
    exact hB
  obtain ⟨e1, o1, -⟩ := put5 (.int .i64 k) (.int .i64 n) (.string s) (.int .i64 x) (.slice A L c) h0
  obtain ⟨e2, o2, -⟩ := put3 (.bool y.text) (.int .i64 y.num) (.string y.str) ((o1 (P + 1) (by omega)).trans h1)
  obtain ⟨e3, o3, -⟩ := put5 (.int .i64 k') (.int .i64 n') (.string s') (.int .i64 x') (.slice A' L' c') ((o2 (P + 2) (by omega)).trans ((o1 (P + 2) (by omega)).trans h2))
  rw [← hF] at e3 o3
  have hs : ∀ b, b ≠ P → b ≠ P + 1 → b ≠ P + 2 → wF.heap[b]? = w4.heap[b]? := fun b h h' h2 => (o3 b h2).trans ((o2 b h').trans (o1 b h))
  exact ⟨(rowc ((o3 P (by omega)).trans ((o2 P (by omega)).trans e1))).1, (rowc ((o3 (P + 1) (by omega)).trans e2)).1, (rowc e3).1, _, _, T, U, y, rfl, hT.nw (by omega) fun b hb _ => hs b (by omega) (by omega) (by omega), hU.nw (by omega) fun b hb _ => hs b (by omega) (by omega) (by omega), hb, hb', hy, hBF⟩

set_option maxRecDepth 100000 in
set_option maxHeartbeats 4000000 in
theorem drawSetKey (A0 : Option Addr) (n0 c0 : Nat) (hn : n0 ≤ 1048576) (w : World) (hA : Code w w.heap.size A0 n0) : Calls Tryd.prog 13 #[.slice A0 n0 c0] w (DSk w) := by
  have HA := Lib.hid hA
  clear hA
  obtain ⟨P, HP⟩ : ∃ P, Hid (w.heap.size = P) := ⟨_, Lib.hid rfl⟩
  go_enter Tryd.func13, Tryd.ntmps13
  go_wp2_with (fail)
  rw [HP.out]
  generalize hw0 : ((w.alloc (.cells #[.int .i64 0, .int .i64 0, .string ⟨#[]⟩, .int .i64 0, .slice none 0 0] IV)).alloc (.cells #[.bool false, .int .i64 0, .string ⟨#[]⟩] 28)).alloc (.cells #[.int .i64 0, .int .i64 0, .string ⟨#[]⟩, .int .i64 0, .slice none 0 0] IV) = w0
  obtain ⟨x0, x1, x2, xz, xb⟩ := al3' w _ _ _ _ _ _ w0 hw0
  rw [HP.out] at x0 x1 x2 xz
  have HB0 := Lib.hid xb
  have HS0 := Lib.hid xz
  have H0 : Hid (w0.heap[P]? = some Z5r) := Lib.hid x0
  have H1 : Hid (w0.heap[P + 1]? = some K3) := Lib.hid x1
  have H2 : Hid (w0.heap[P + 2]? = some Z5r) := Lib.hid x2
  have hcode : Code w0 w0.heap.size A0 n0 := HA.out.later HB0.out
  clear hw0 x0 x1 x2 xz xb
  refine (new A0 n0 c0 hn _ hcode).mono ?_
  rintro e w1 ⟨N, rfl, hN, hC1, hb1⟩
  rw [HS0.out] at hN
  have HC1 := Lib.hid hC1
  have HB1 := Lib.hid (bs HB0.out hb1)
  have HP1 := Lib.hid (And.intro (carry hb1 H0.out) (And.intro (carry hb1 H1.out) (carry hb1 H2.out)))
  have HN := Lib.hid hN
  clear hC1 hb1 hcode HB0 HS0 H0 H1 H2
  go_wp2_with (fail)
  refine (key N _ HC1.out).mono ?_
  rintro e w2 ⟨y, rfl, hyb, hC2, hg2⟩
  have hN1 := HC1.out.lt
  have HY : Hid (I64 y.num ∧ y.str.size ≤ 2) := Lib.hid (by unfold I64; omega)
  have PST : Hid (∀ (wa wb : World), wa.grownBy wb (some N) → ∀ (b : Nat) (o : Obj), b < N → wa.heap[b]? = some o → wb.heap[b]? = some o) := Lib.hid (fun wa wb hg b o hb h => (hg.block b (Array.getElem?_eq_some_iff.1 h).1 (by intro h; injection h; omega)).trans h)
  have HC2 := Lib.hid hC2
  have HB2 := Lib.hid (below_of HB1.out hg2 (by have := HP.out; omega) HB1.out.size)
  have HP2 := Lib.hid (And.intro (PST.out _ _ hg2 P _ (by omega) HP1.out.1) (And.intro (PST.out _ _ hg2 (P + 1) _ (by omega) HP1.out.2.1) (PST.out _ _ hg2 (P + 2) _ (by omega) HP1.out.2.2)))
  have HZ2 : Hid (N < w2.heap.size) := Lib.hid (Nat.lt_of_lt_of_le hN1 hg2.size)
  obtain ⟨yb, yn, ys⟩ := y
  unfold kyV
  clear hyb hC2 hg2 HC1 HB1 HP1 hN1
  go_wp2_with (fail)
  obtain ⟨M, HM⟩ : ∃ M, Hid (w2.heap.size = M) := ⟨_, Lib.hid rfl⟩
  rw [HM.out]
  have hNM : N < M := by rw [← HM.out]; exact HZ2.out
  generalize hw3 : w2.alloc (.cells #[.bool yb, .int .i64 yn, .string ys] 28) = w3
  have hb3 : Below w2.heap.size w2 w3 := hw3 ▸ b1 w2 _
  have hm3 : w3.heap[M]? = some (.cells #[.bool yb, .int .i64 yn, .string ys] 28 (0, 0)) := by rw [← hw3, ← HM.out]; exact heap_alloc_new w2 _
  refine (once N 9 (by omega) _ (HC2.out.below hb3)).mono ?_
  rintro e w4 ⟨b, rfl, hC4, hg4⟩
  have HC4 := Lib.hid hC4
  have HB4 := Lib.hid (below_of (bs HB2.out hb3) hg4 (by have := HP.out; omega) (Nat.le_trans HB2.out.size hb3.size))
  have HP4 := Lib.hid (And.intro (PST.out _ _ hg4 P _ (by omega) (carry hb3 HP2.out.1)) (And.intro (PST.out _ _ hg4 (P + 1) _ (by omega) (carry hb3 HP2.out.2.1)) (PST.out _ _ hg4 (P + 2) _ (by omega) (carry hb3 HP2.out.2.2))))
  have HM4 := Lib.hid (past hg4 hm3 hNM)
  clear hw3 hb3 hm3 hC4 hg4 HC2 HB2 HP2 HZ2
  cases b with
  | false =>
    go_wp2_with (fail)
    have q := rowc HM4.out
    have q0 := q.1 0; have q1 := q.1 1; have q2 := q.1 2
    simp at q0 q1 q2
    clear q
    have HZ4 : Hid (P + 3 ≤ w4.heap.size) := Lib.hid (by have := HC4.out.lt; have := HN.out; omega)
    go_region_with (first
      | (go_at_call 57; refine (drawArr N _ ?_).mono ?_; (first | exact HC4.out | exact HC4.out.below ((Below.refl _ _).drew)); rintro e w6 ⟨va, ta, rfl, hta, htb, hC6, hg6⟩; replace hg6 : w4.grownBy w6 (some N) := (by first | exact hg6 | exact only_trans (grown_of_below ((Below.refl w4.heap.size w4).drew) N) hg6)
         have HTA : Hid (TIn w6 (Nw w4.heap.size w6) ta va ∧ tot ta ≤ 2000) := Lib.hid ⟨hta, htb⟩
         have HC6 := Lib.hid hC6; have HG6 := Lib.hid hg6; have HM6 := Lib.hid (past hg6 HM4.out hNM); have q := rowc HM6.out; have q0 := q.1 0; have q1 := q.1 1; have q2 := q.1 2; simp at q0 q1 q2; clear q hta htb hC6 hg6
         obtain ⟨ka, na, sa, xa, ksa, vsa⟩ := ta
         obtain ⟨Aa, ca, rfl, -, -⟩ := HTA.out.1.out
         obtain ⟨La, HLa⟩ : ∃ L, Hid (vsa.length = L) := ⟨_, Lib.hid rfl⟩
         rw [HLa.out] at HTA ⊢)
      | (go_at_call 58; refine (drawT N 2 2 rfl (by omega) _ ?_).mono ?_; (first | exact HC6.out | exact HC6.out.below ((Below.refl _ _).drew)); rintro e w7 ⟨ku, nu, su, xu, ksu, vsu, Au, Lu, cu, rfl, hbu, hLu, h4u, hOu, hBu, hC7, hg7⟩; replace hg7 : w6.grownBy w7 (some N) := (by first | exact hg7 | exact only_trans (grown_of_below ((Below.refl w6.heap.size w6).drew) N) hg7)
         have HU : Hid (TIn w7 (Nw (P + 3) w7) (.mk ku nu su xu ksu vsu) (vV ku nu su xu Au Lu cu) ∧ tot (.mk ku nu su xu ksu vsu) ≤ 2000) := Lib.hid (by
           obtain ⟨A2, c2, e2, hc2, hin2⟩ := hOu.isin (by unfold maxLen; omega)
           obtain ⟨rfl, -, rfl⟩ : Au = A2 ∧ Lu = vsu.length ∧ cu = c2 := by simpa using e2
           have := TIn.of (k := ku) (n := nu) (s := su) (x := xu) cu (by unfold I64 maxLen; omega) hin2 hc2
           rw [← hLu] at this
           exact ⟨this.stays (fun b hb => ⟨Nat.le_trans (Nat.le_trans HZ4.out HG6.out.size) hb.1, hb.2⟩) (fun _ _ _ => rfl), by rw [tot_mk]; have : dB 2 = 220 := rfl; omega⟩)
         have HG7 := Lib.hid hg7
         have HPZ7 := Lib.hid (And.intro (PST.out _ _ hg7 P _ (by omega) (PST.out _ _ HG6.out P _ (by omega) HP4.out.1)) (And.intro (PST.out _ _ hg7 (P + 1) _ (by omega) (PST.out _ _ HG6.out (P + 1) _ (by omega) HP4.out.2.1)) (PST.out _ _ hg7 (P + 2) _ (by omega) (PST.out _ _ HG6.out (P + 2) _ (by omega) HP4.out.2.2))))
         have HM7 := Lib.hid (past hg7 HM6.out hNM); have q := rowc HM7.out; have q0 := q.1 0; have q1 := q.1 1; have q2 := q.1 2; simp at q0 q1 q2; clear q
         obtain ⟨r0, f0⟩ := rowc HPZ7.out.1
         obtain ⟨r1, f1⟩ := rowc HPZ7.out.2.1
         obtain ⟨r2, f2⟩ := rowc HPZ7.out.2.2
         clear hbu hLu h4u hOu hBu hC7 hg7))
    all_goals
      go_wp2_with (fail)
      generalize hwF : World.setCell (World.setCell (World.setCell (World.setCell (World.setCell (World.setCell (World.setCell (World.setCell (World.setCell (World.setCell (World.setCell (World.setCell (World.setCell w7 _ _) _ _) _ _) _ _) _ _) _ _) _ _) _ _) _ _) _ _) _ _) _ _) _ _ = wF
      obtain ⟨rF, rF1, rF2, hD⟩ := DSk.fin (y := ⟨yb, yn, ys⟩) HP.out HPZ7.out.1 HPZ7.out.2.1 HPZ7.out.2.2 (below_of (below_of HB4.out HG6.out (by have := HP.out; omega) HB4.out.size) HG7.out (by have := HP.out; omega) (Nat.le_trans HB4.out.size HG6.out.size)) (HTA.out.1.nw HZ4.out fun b hb hl => HG7.out.block b hl (ne_of (Nat.lt_of_lt_of_le HC4.out.lt hb))) HU.out.1 HTA.out.2 HU.out.2 HY.out wF hwF.symm
      clear hwF r0 f0 r1 f1 r2 f2 q0 q1 q2
      exact bodyPost_ret (v := .tuple #[vV ka na sa xa Aa La ca, .agg #[.bool yb, .int .i64 yn, .string ys], vV ku nu su xu Au Lu cu]) (by simp [results, Tryd.results13, go_sem, rF, rF1, rF2]) rfl hD
  | true =>
    go_wp2_with (fail)
    refine (odd N _ HC4.out).mono ?_
    rintro e w5 ⟨z, rfl, z0, z1, hC5, hg5⟩
    have hm5 := past hg5 HM4.out hNM
    have HC5a := Lib.hid hC5
    have HB5a := Lib.hid (below_of HB4.out hg5 (by have := HP.out; omega) HB4.out.size)
    have HP5a := Lib.hid (And.intro (PST.out _ _ hg5 P _ (by omega) HP4.out.1) (And.intro (PST.out _ _ hg5 (P + 1) _ (by omega) HP4.out.2.1) (PST.out _ _ hg5 (P + 2) _ (by omega) HP4.out.2.2)))
    have HM5a := Lib.hid hm5
    obtain ⟨r0, f0⟩ := rowc hm5
    clear hC5 hg5 hm5 HC4 HB4 HP4 HM4
    go_wp2_with (fail)
    clear r0 f0
    generalize hw8 : World.setCell (World.setCell (World.setCell w5 _ _) _ _) _ _ = w8
    obtain ⟨e8, o8, -⟩ := put3 (.bool false) (.int .i64 z) (.string ⟨#[]⟩) HM5a.out
    have hB8 : Below w.heap.size w w8 := by
      rw [← hw8]
      iterate 3 refine Below.setCell ?_ (show w.heap.size ≤ M by have := HP.out; have := HN.out; omega) _
      exact HB5a.out
    rw [hw8] at e8 o8
    have HM8 := Lib.hid e8
    have HB8 := Lib.hid hB8
    have HC8 : Hid (Cur w8 N) := Lib.hid (Cur.upto HC5a.out fun b hb => o8 b (by omega))
    have HP8 := Lib.hid (And.intro ((o8 P (by have := HN.out; omega)).trans HP5a.out.1) (And.intro ((o8 (P + 1) (by have := HN.out; omega)).trans HP5a.out.2.1) ((o8 (P + 2) (by have := HN.out; omega)).trans HP5a.out.2.2)))
    clear hw8 e8 o8 hB8 HC5a HB5a HP5a HM5a HY
    have q := rowc HM8.out
    have q0 := q.1 0; have q1 := q.1 1; have q2 := q.1 2
    simp at q0 q1 q2
    clear q
    have HZ8 : Hid (P + 3 ≤ w8.heap.size) := Lib.hid (by have := HC8.out.lt; have := HN.out; omega)
    go_region_with (first
      | (go_at_call 57; refine (drawArr N _ ?_).mono ?_; (first | exact HC8.out | exact HC8.out.below ((Below.refl _ _).drew)); rintro e w6 ⟨va, ta, rfl, hta, htb, hC6, hg6⟩; replace hg6 : w8.grownBy w6 (some N) := (by first | exact hg6 | exact only_trans (grown_of_below ((Below.refl w8.heap.size w8).drew) N) hg6)
         have HTA : Hid (TIn w6 (Nw w8.heap.size w6) ta va ∧ tot ta ≤ 2000) := Lib.hid ⟨hta, htb⟩
         have HC6 := Lib.hid hC6; have HG6 := Lib.hid hg6; have HM6 := Lib.hid (past hg6 HM8.out hNM); have q := rowc HM6.out; have q0 := q.1 0; have q1 := q.1 1; have q2 := q.1 2; simp at q0 q1 q2; clear q hta htb hC6 hg6
         obtain ⟨ka, na, sa, xa, ksa, vsa⟩ := ta
         obtain ⟨Aa, ca, rfl, -, -⟩ := HTA.out.1.out
         obtain ⟨La, HLa⟩ : ∃ L, Hid (vsa.length = L) := ⟨_, Lib.hid rfl⟩
         rw [HLa.out] at HTA ⊢)
      | (go_at_call 58; refine (drawT N 2 2 rfl (by omega) _ ?_).mono ?_; (first | exact HC6.out | exact HC6.out.below ((Below.refl _ _).drew)); rintro e w7 ⟨ku, nu, su, xu, ksu, vsu, Au, Lu, cu, rfl, hbu, hLu, h4u, hOu, hBu, hC7, hg7⟩; replace hg7 : w6.grownBy w7 (some N) := (by first | exact hg7 | exact only_trans (grown_of_below ((Below.refl w6.heap.size w6).drew) N) hg7)
         have HU : Hid (TIn w7 (Nw (P + 3) w7) (.mk ku nu su xu ksu vsu) (vV ku nu su xu Au Lu cu) ∧ tot (.mk ku nu su xu ksu vsu) ≤ 2000) := Lib.hid (by
           obtain ⟨A2, c2, e2, hc2, hin2⟩ := hOu.isin (by unfold maxLen; omega)
           obtain ⟨rfl, -, rfl⟩ : Au = A2 ∧ Lu = vsu.length ∧ cu = c2 := by simpa using e2
           have := TIn.of (k := ku) (n := nu) (s := su) (x := xu) cu (by unfold I64 maxLen; omega) hin2 hc2
           rw [← hLu] at this
           exact ⟨this.stays (fun b hb => ⟨Nat.le_trans (Nat.le_trans HZ8.out HG6.out.size) hb.1, hb.2⟩) (fun _ _ _ => rfl), by rw [tot_mk]; have : dB 2 = 220 := rfl; omega⟩)
         have HG7 := Lib.hid hg7
         have HPZ7 := Lib.hid (And.intro (PST.out _ _ hg7 P _ (by omega) (PST.out _ _ HG6.out P _ (by omega) HP8.out.1)) (And.intro (PST.out _ _ hg7 (P + 1) _ (by omega) (PST.out _ _ HG6.out (P + 1) _ (by omega) HP8.out.2.1)) (PST.out _ _ hg7 (P + 2) _ (by omega) (PST.out _ _ HG6.out (P + 2) _ (by omega) HP8.out.2.2))))
         have HM7 := Lib.hid (past hg7 HM6.out hNM); have q := rowc HM7.out; have q0 := q.1 0; have q1 := q.1 1; have q2 := q.1 2; simp at q0 q1 q2; clear q
         obtain ⟨r0, f0⟩ := rowc HPZ7.out.1
         obtain ⟨r1, f1⟩ := rowc HPZ7.out.2.1
         obtain ⟨r2, f2⟩ := rowc HPZ7.out.2.2
         clear hbu hLu h4u hOu hBu hC7 hg7))
    all_goals
      go_wp2_with (fail)
      generalize hwF : World.setCell (World.setCell (World.setCell (World.setCell (World.setCell (World.setCell (World.setCell (World.setCell (World.setCell (World.setCell (World.setCell (World.setCell (World.setCell w7 _ _) _ _) _ _) _ _) _ _) _ _) _ _) _ _) _ _) _ _) _ _) _ _) _ _ = wF
      obtain ⟨rF, rF1, rF2, hD⟩ := DSk.fin (y := ⟨false, z, ⟨#[]⟩⟩) HP.out HPZ7.out.1 HPZ7.out.2.1 HPZ7.out.2.2 (below_of (below_of HB8.out HG6.out (by have := HP.out; omega) HB8.out.size) HG7.out (by have := HP.out; omega) (Nat.le_trans HB8.out.size HG6.out.size)) (HTA.out.1.nw HZ8.out fun b hb hl => HG7.out.block b hl (ne_of (Nat.lt_of_lt_of_le HC8.out.lt hb))) HU.out.1 HTA.out.2 HU.out.2 ⟨by unfold I64; dsimp only; omega, Nat.zero_le _⟩ wF hwF.symm
      clear hwF r0 f0 r1 f1 r2 f2 q0 q1 q2
      exact bodyPost_ret (v := .tuple #[vV ka na sa xa Aa La ca, .agg #[.bool false, .int .i64 z, .string ⟨#[]⟩], vV ku nu su xu Au Lu cu]) (by simp [results, Tryd.results13, go_sem, rF, rF1, rF2]) rfl hD

end Go.Proofs.YtlbkbcafkjgckaaDoor.draw

