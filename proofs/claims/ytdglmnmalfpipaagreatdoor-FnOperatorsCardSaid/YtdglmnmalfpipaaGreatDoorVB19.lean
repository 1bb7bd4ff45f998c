/-
  What the texts behind this one use: 2 parts of one proof.
  Conditions: those that each theorem names.
-/
import Derived.Test.YtdglmnmalfpipaaGreatDoorVSCmpK
import Derived.Test.YtdglmnmalfpipaaGreatDoorVSDrawTwo
import Derived.Test.YtdglmnmalfpipaaGreatDoorVB11
/-
  Two arrays of which the comparison begins.
  Conditions: none.
-/
namespace Go.Proofs.YtdglmnmalfpipaaGreatDoor.tree
open Go.ChangeShapes Go.WideShapes Go.ChangeAt Go.RowKit
set_option linter.unusedVariables false

def NmQ (w : World) (A : Option Addr) (L c : Nat) (A' : Option Addr) (L' c' : Nat) (e : Ending) (w' : World) : Prop :=
  ∃ b, e = .returned (.agg #[.slice A L c, .slice A' L' c', .int .i64 0, .map (some b)]) ∧ w.heap.size ≤ b ∧ raw.Holds w' GK b (fun _ => none) ∧ Below w.heap.size w w'
set_option maxHeartbeats 1000000 in
theorem newMatching (k n : Int) (s : ByteArray) (x : Int) (A : Option Addr) (L c : Nat) (k' n' : Int) (s' : ByteArray) (x' : Int) (A' : Option Addr) (L' c' : Nat) (w : World) :
    Calls Tryz.prog 211 #[vV k n s x A L c, vV k' n' s' x' A' L' c'] w (NmQ w A L c A' L' c') := by
  have hmm := @run_makeMap Tryz.prog
  go_enter Tryz.func211, Tryz.ntmps211
  go_wp2_with (fail)
  obtain ⟨_, _, _, az, ab⟩ := al3 w #[.int .i64 k, .int .i64 n, .string s, .int .i64 x, .slice A L c] #[.int .i64 k', .int .i64 n', .string s', .int .i64 x', .slice A' L' c'] #[.slice A L c, .slice A' L' c', .int .i64 0, .map (some (w.heap.size + 1 + 1 + 1))] IV IV MG
  have hmd := raw.Holds.made (((w.alloc (.cells #[.int .i64 k, .int .i64 n, .string s, .int .i64 x, .slice A L c] IV)).alloc (.cells #[.int .i64 k', .int .i64 n', .string s', .int .i64 x', .slice A' L' c'] IV)).alloc (.cells #[.slice A L c, .slice A' L' c', .int .i64 0, .map (some (w.heap.size + 1 + 1 + 1))] MG)) GK
  rw [az] at hmd
  refine bodyPost_ret (v := .agg #[.slice A L c, .slice A' L' c', .int .i64 0, .map (some (w.heap.size + 1 + 1 + 1))]) (by simp [results, Tryz.results211, go_sem]) rfl ⟨_, rfl, by omega, hmd, bs ab (b1 _ _)⟩

end Go.Proofs.YtdglmnmalfpipaaGreatDoor.tree

/-
  The model's draws of FnOperators: an operator and two numbers; an operator and two values.
  Conditions: the bytes of the draw are at most 1048576.
-/
namespace Go.Proofs.YtdglmnmalfpipaaGreatDoor.draw
open Go.ChangeShapes Go.WideShapes Go.ChangeAt Go.RowKit tree
set_option linter.unusedVariables false

def DAr (w : World) (e : Ending) (w' : World) : Prop := ∃ x a b : Int, e = .returned (.tuple #[.int .i64 x, .int .i64 a, .int .i64 b]) ∧ Below w.heap.size w w'
theorem drawArith (A0 : Option Addr) (n0 c0 : Nat) (hn : n0 ≤ 1048576) (w : World) (hA : Code w w.heap.size A0 n0) : Calls Tryz.prog 34 #[.slice A0 n0 c0] w (DAr w) := by
  have HA := Lib.hid hA
  clear hA
  go_enter Tryz.func34, Tryz.ntmps34
  go_wp2_with (fail)
  refine (new A0 n0 c0 hn _ HA.out).mono ?_
  rintro e w1 ⟨N, rfl, hN, hC1, hb1⟩
  have HC1 := Lib.hid hC1
  have HB1 := Lib.hid hb1
  clear hC1 hb1
  go_wp2_with (fail)
  refine (below N 7 (by omega) _ HC1.out).mono ?_
  rintro e w2 ⟨x, rfl, x0, x1, hC2, hg2⟩
  have HC2 := Lib.hid hC2
  have HB2 := Lib.hid (below_of HB1.out hg2 hN HB1.out.size)
  clear hC2 hg2
  go_wp2_with (fail)
  refine (one N _ HC2.out).mono ?_
  rintro e w3 ⟨a, rfl, a0, a1, hC3, hg3⟩
  have HC3 := Lib.hid hC3
  have HB3 := Lib.hid (below_of HB2.out hg3 hN HB2.out.size)
  clear hC3 hg3
  go_wp2_with (fail)
  refine (one N _ HC3.out).mono ?_
  rintro e w4 ⟨b, rfl, b0, b1, hC4, hg4⟩
  have HC4 := Lib.hid hC4
  have HB4 := Lib.hid (below_of HB3.out hg4 hN HB3.out.size)
  clear hC4 hg4
  go_wp2_with (fail)
  refine (below N 3 (by omega) _ HC4.out).mono ?_
  rintro e w5 ⟨y, rfl, y0, y1, hC5, hg5⟩
  have HB5 := Lib.hid (below_of HB4.out hg5 hN HB4.out.size)
  clear hC5 hg5
  go_wp2_with (fail)
  go_ret3
  exact ⟨_, _, _, rfl, HB5.out⟩

def DBi (w : World) (e : Ending) (w' : World) : Prop := ∃ (op : Int) (v v' : Value) (t t' : Tr), e = .returned (.tuple #[.int .i64 op, v, v']) ∧ TIn w' (Nw w.heap.size w') t v ∧ TIn w' (Nw w.heap.size w') t' v' ∧ tot t ≤ 2000 ∧ tot t' ≤ 2000 ∧ Below w.heap.size w w'
theorem DBi.fin {op : Int} {P : Nat} {w w4 : World} {T T' : Tr} {k n x k' n' x' : Int} {s s' : ByteArray} {A A' : Option Addr} {L c L' c' : Nat} (hP : w.heap.size = P) (h0 : w4.heap[P]? = some Z5) (h1 : w4.heap[P + 1]? = some Z5) (hB : Below w.heap.size w w4)
    (hT : TIn w4 (Nw (P + 2) w4) T (vV k n s x A L c)) (hT' : TIn w4 (Nw (P + 2) w4) T' (vV k' n' s' x' A' L' c')) (hb : tot T ≤ 2000) (hb' : tot T' ≤ 2000) (wF : World)
    (hF : wF = (((((((((w4.setCell ⟨P, 0, none⟩ (.int .i64 k)).setCell ⟨P, 1, none⟩ (.int .i64 n)).setCell ⟨P, 2, none⟩ (.string s)).setCell ⟨P, 3, none⟩ (.int .i64 x)).setCell ⟨P, 4, none⟩ (.slice A L c)).setCell ⟨P + 1, 0, none⟩ (.int .i64 k')).setCell ⟨P + 1, 1, none⟩ (.int .i64 n')).setCell ⟨P + 1, 2, none⟩ (.string s')).setCell ⟨P + 1, 3, none⟩ (.int .i64 x')).setCell ⟨P + 1, 4, none⟩ (.slice A' L' c')) :
    (∀ j, wF.cell? ⟨P, j, none⟩ = #[Value.int .i64 k, .int .i64 n, .string s, .int .i64 x, .slice A L c][j]?) ∧ (∀ j, wF.cell? ⟨P + 1, j, none⟩ = #[Value.int .i64 k', .int .i64 n', .string s', .int .i64 x', .slice A' L' c'][j]?) ∧ DBi w (.returned (.tuple #[.int .i64 op, vV k n s x A L c, vV k' n' s' x' A' L' c'])) wF := by
  have hBF : Below w.heap.size w wF := by
    rw [hF]
    iterate 5 refine Below.setCell ?_ (show w.heap.size ≤ P + 1 by omega) _
    iterate 5 refine Below.setCell ?_ (show w.heap.size ≤ P by omega) _
    exact hB
  obtain ⟨e1, o1, g1⟩ := put5 (.int .i64 k) (.int .i64 n) (.string s) (.int .i64 x) (.slice A L c) h0
  obtain ⟨e2, o2, g2⟩ := put5 (.int .i64 k') (.int .i64 n') (.string s') (.int .i64 x') (.slice A' L' c') ((o1 (P + 1) (by omega)).trans h1)
  rw [← hF] at e2 o2 g2
  have hs : ∀ b, b ≠ P → b ≠ P + 1 → wF.heap[b]? = w4.heap[b]? := fun b h h' => (o2 b h').trans (o1 b h)
  exact ⟨(rowc ((o2 P (by omega)).trans e1)).1, (rowc e2).1, op, _, _, T, T', rfl, hT.nw (by omega) fun b hb _ => hs b (by omega) (by omega), hT'.nw (by omega) fun b hb _ => hs b (by omega) (by omega), hb, hb', hBF⟩
theorem DBi.drew {w w' : World} {e : Ending} (h : DBi w e w') : DBi w e w'.drew := by
  obtain ⟨op, v, v', t, t', he, h1, h2, h3, h4, h5⟩ := h
  exact ⟨op, v, v', t, t', he, TIn.nw (w := w') (w' := w'.drew) (Nat.le_refl _) (fun _ _ _ => rfl) h1, TIn.nw (w := w') (w' := w'.drew) (Nat.le_refl _) (fun _ _ _ => rfl) h2, h3, h4, h5.drew⟩
theorem tin_text (w : World) (S : Nat → Prop) (s : ByteArray) (hs : s.size ≤ 1000) : TIn w S (.mk 3 0 s 0 [] []) (vV 3 0 s 0 none 0 0) :=
  TIn.of 0 ⟨⟨by omega, by omega⟩, ⟨by omega, by omega⟩, ⟨by omega, by omega⟩, by unfold maxLen; omega⟩ (IsIn.nil w S none) ⟨Nat.zero_le _, Nat.zero_le _⟩
theorem tot_text (s : ByteArray) (hs : s.size ≤ 1000) : tot (.mk 3 0 s 0 [] []) ≤ 2000 := by
  rw [tot]
  simp [tots]
  omega

set_option maxRecDepth 100000 in
set_option maxHeartbeats 4000000 in
theorem drawBinary (A0 : Option Addr) (n0 c0 : Nat) (hn : n0 ≤ 1048576) (w : World) (hA : Code w w.heap.size A0 n0) : Calls Tryz.prog 36 #[.slice A0 n0 c0] w (DBi w) := by
  have HA := Lib.hid hA
  clear hA
  obtain ⟨P, HP⟩ : ∃ P, Hid (w.heap.size = P) := ⟨_, Lib.hid rfl⟩
  go_enter Tryz.func36, Tryz.ntmps36
  go_wp2_with (fail)
  rw [HP.out]
  generalize hw0 : (w.alloc (.cells #[.int .i64 0, .int .i64 0, .string ⟨#[]⟩, .int .i64 0, .slice none 0 0] IV)).alloc (.cells #[.int .i64 0, .int .i64 0, .string ⟨#[]⟩, .int .i64 0, .slice none 0 0] IV) = w0
  have HB0 : Hid (Below w.heap.size w w0) := Lib.hid (hw0 ▸ b2 w _ _)
  have HS0 : Hid (w0.heap.size = P + 2) := Lib.hid (by rw [← hw0, ← HP.out]; simp)
  have H0 : Hid (w0.heap[P]? = some Z5) := Lib.hid (by rw [← hw0, ← HP.out]; exact heap_alloc2_old w _ _)
  have H1 : Hid (w0.heap[P + 1]? = some Z5) := Lib.hid (by rw [← hw0, ← HP.out]; exact heap_alloc2_new w _ _)
  have hcode : Code w0 w0.heap.size A0 n0 := HA.out.later HB0.out
  clear hw0
  refine (new A0 n0 c0 hn _ hcode).mono ?_
  rintro e w1 ⟨N, rfl, hN, hC1, hb1⟩
  rw [HS0.out] at hN
  have HC1 := Lib.hid hC1
  have HB1 := Lib.hid (bs HB0.out hb1)
  have HA1 := Lib.hid (And.intro (carry hb1 H0.out) (carry hb1 H1.out))
  have HZ1 : Hid (P + 2 ≤ w1.heap.size) := Lib.hid (by rw [← HS0.out]; exact hb1.size)
  clear hC1 hb1 hcode HB0 HS0 H0 H1
  have K : ∀ (a b : World), a.grownBy b (some N) → a.heap[P]? = some Z5 ∧ a.heap[P + 1]? = some Z5 → b.heap[P]? = some Z5 ∧ b.heap[P + 1]? = some Z5 := fun a b hg h => ⟨(hg.block P (Array.getElem?_eq_some_iff.1 h.1).1 (by intro h; injection h; omega)).trans h.1, (hg.block (P + 1) (Array.getElem?_eq_some_iff.1 h.2).1 (by intro h; injection h; omega)).trans h.2⟩
  have HK := Lib.hid K
  clear K
  have hwN : w.heap.size ≤ N := by have := HP.out; omega
  go_wp2_with (fail)
  refine (below N 17 (by omega) _ HC1.out).mono ?_
  rintro e w2 ⟨op, rfl, o0, o1, hC2, hg2⟩
  have HC2 := Lib.hid hC2
  have HB2 := Lib.hid (below_of HB1.out hg2 hwN HB1.out.size)
  have HA2 := Lib.hid (HK.out _ _ hg2 HA1.out)
  have HZ2 : Hid (P + 2 ≤ w2.heap.size) := Lib.hid (Nat.le_trans HZ1.out hg2.size)
  clear hC2 hg2 HC1 HB1 HA1 HZ1
  go_wp2_with (fail)
  refine (once N 9 (by omega) _ HC2.out).mono ?_
  rintro e w3 ⟨b, rfl, hC3, hg3⟩
  have HC3 := Lib.hid hC3
  have HB3 := Lib.hid (below_of HB2.out hg3 hwN HB2.out.size)
  have HA3 := Lib.hid (HK.out _ _ hg3 HA2.out)
  have HZ3 : Hid (P + 2 ≤ w3.heap.size) := Lib.hid (Nat.le_trans HZ2.out hg3.size)
  clear hC3 hg3 HC2 HB2 HA2 HZ2
  cases b with
  | true =>
    go_wp2_with (fail)
    go_loopg [7] 400 (fun gk v wr => ∃ o : ByteArray, v = .string o ∧ gk + o.size = 400 ∧ w3 = wr)
    case atStart => exact ⟨⟨#[]⟩, rfl, rfl, rfl⟩
    case round =>
      obtain ⟨o, rfl, hgk, hw⟩ := hrel
      subst hw
      by_cases hlt : (o.size : Int) < 396
      · have hsum : (o ++ (⟨#[97, 98, 99, 100, 101]⟩ : ByteArray)).size = o.size + 5 := ByteArray.size_append
        have HS := Lib.hid hsum
        have h5 : (⟨#[97, 98, 99, 100, 101]⟩ : ByteArray).size = 5 := rfl
        clear hsum
        go_wp2_with (fail)
        go_roundg (400 - (o.size + 5))
        case measure => omega
        case rel => exact ⟨_, rfl, by rw [HS.out]; omega, rfl⟩
      · have ho : o.size ≤ 1000 := by omega
        go_wp2_with (fail)
        refine (textV o _).mono ?_
        rintro e w4 ⟨rfl, hb4⟩
        have HC4 := Lib.hid (HC3.out.below hb4)
        have HB4 := Lib.hid (bs HB3.out hb4)
        have HA4 := Lib.hid (And.intro (carry hb4 HA3.out.1) (carry hb4 HA3.out.2))
        have HI := Lib.hid (strs_new' 5 w4 9 [⟨#[]⟩, ⟨#[97, 98, 99]⟩, ⟨#[97, 98, 99, 100]⟩, ⟨#[97, 98, 99, 100, 101]⟩] (by decide) N HC4.out.lt)
        clear hb4
        go_wp2_with (fail)
        refine (pickStr 5 N w4.heap.size 4 4 (by omega) (by omega) _ (HC4.out.new _) HI.out).mono ?_
        rintro e w5 ⟨z, rfl, hz, hC5, hg5⟩
        have hg5' := only_trans (World.grownBy_alloc w4 _ (some N)) hg5
        have HB5 := Lib.hid (below_of HB4.out hg5' hwN HB4.out.size)
        have HA5 := Lib.hid (HK.out _ _ hg5' HA4.out)
        clear hC5 hg5 hg5' HC4 HB4 HA4
        go_wp2_with (fail)
        refine (textV z _).mono ?_
        rintro e w6 ⟨rfl, hb6⟩
        have HB6 := Lib.hid (bs HB5.out hb6)
        have HA6 := Lib.hid (And.intro (carry hb6 HA5.out.1) (carry hb6 HA5.out.2))
        clear hb6
        obtain ⟨r0, f0⟩ := rowc HA6.out.1
        obtain ⟨r1, f1⟩ := rowc HA6.out.2
        go_wp2_with (fail)
        generalize hwF : World.setCell (World.setCell (World.setCell (World.setCell (World.setCell (World.setCell (World.setCell (World.setCell (World.setCell (World.setCell w6 _ _) _ _) _ _) _ _) _ _) _ _) _ _) _ _) _ _) _ _ = wF
        obtain ⟨rF, rF1, hD⟩ := DBi.fin (op := op) (T := .mk 3 0 o 0 [] []) (T' := .mk 3 0 z 0 [] []) HP.out HA6.out.1 HA6.out.2 HB6.out (tin_text _ _ o ho) (tin_text _ _ z (by omega)) (tot_text o ho) (tot_text z (by omega)) wF hwF.symm
        clear hwF r0 f0 r1 f1
        exact bodyPost_ret (v := .tuple #[.int .i64 op, vV 3 0 o 0 none 0 0, vV 3 0 z 0 none 0 0]) (by simp [results, Tryz.results36, go_sem, rF, rF1]) rfl hD
  | false =>
    go_wp2_with (fail)
    refine (drawTwo N _ HC3.out).mono ?_
    rintro e w4 ⟨v, v', t, t', rfl, hT, hT', hb, hb', hC4, hg4⟩
    obtain ⟨k, n, s, x, ks, vs⟩ := t
    obtain ⟨k', n', s', x', ks', vs'⟩ := t'
    obtain ⟨A, c, rfl, -, -⟩ := hT.out
    obtain ⟨A', c', rfl, -, -⟩ := hT'.out
    obtain ⟨L, HL⟩ : ∃ L, Hid (vs.length = L) := ⟨_, Lib.hid rfl⟩
    obtain ⟨L', HL'⟩ : ∃ L, Hid (vs'.length = L) := ⟨_, Lib.hid rfl⟩
    rw [HL.out] at hT ⊢
    rw [HL'.out] at hT' ⊢
    have HB4 := Lib.hid (below_of HB3.out hg4 hwN HB3.out.size)
    have HA4 := Lib.hid (HK.out _ _ hg4 HA3.out)
    obtain ⟨Q, HQ⟩ : ∃ Q, Hid (w4.heap.size = Q) := ⟨_, Lib.hid rfl⟩
    have HH := Lib.hid (And.intro hT (And.intro hT' (And.intro hb hb')))
    have hz4 := hg4.size
    clear hT hT' hb hb' hC4 hg4 HC3
    go_upto_region 9 with fail
    rw [HQ.out]
    generalize hw5 : (w4.alloc (.cells #[.int .i64 k, .int .i64 n, .string s, .int .i64 x, .slice A L c] IV)).alloc (.cells #[.int .i64 k', .int .i64 n', .string s', .int .i64 x', .slice A' L' c'] IV) = w5
    have hb5 : Below w4.heap.size w4 w5 := hw5 ▸ b2 w4 _ _
    have E0 : Hid (w5.heap[Q]? = some (.cells #[.int .i64 k, .int .i64 n, .string s, .int .i64 x, .slice A L c] IV (0, 0))) := Lib.hid (by rw [← hw5, ← HQ.out]; exact heap_alloc2_old w4 _ _)
    have E1 : Hid (w5.heap[Q + 1]? = some (.cells #[.int .i64 k', .int .i64 n', .string s', .int .i64 x', .slice A' L' c'] IV (0, 0))) := Lib.hid (by rw [← hw5, ← HQ.out]; exact heap_alloc2_new w4 _ _)
    have HT5 : Hid (TIn w5 (Nw (P + 2) w5) (.mk k n s x ks vs) (vV k n s x A L c)) := Lib.hid ((HH.out.1.nwb hb5).nw HZ3.out fun _ _ _ => rfl)
    have HU5 : Hid (TIn w5 (Nw (P + 2) w5) (.mk k' n' s' x' ks' vs') (vV k' n' s' x' A' L' c')) := Lib.hid ((HH.out.2.1.nwb hb5).nw HZ3.out fun _ _ _ => rfl)
    have HB5 := Lib.hid (bs HB4.out hb5)
    have HA5 := Lib.hid (And.intro (carry hb5 HA4.out.1) (carry hb5 HA4.out.2))
    have HTB := Lib.hid HH.out.2.2
    have hPQ : P + 2 ≤ Q := by rw [← HQ.out]; exact Nat.le_trans HZ3.out hz4
    clear hw5 hz4 hb5 HH
    have q := rowc E0.out
    have q0 := q.1 0; have q1 := q.1 1; have q2 := q.1 2; have q3 := q.1 3; have q4 := q.1 4
    have p := rowc E1.out
    have p0 := p.1 0; have p1 := p.1 1; have p2 := p.1 2; have p3 := p.1 3; have p4 := p.1 4
    simp at q0 q1 q2 q3 q4 p0 p1 p2 p3 p4
    obtain ⟨r0, f0⟩ := rowc HA5.out.1
    obtain ⟨r1, f1⟩ := rowc HA5.out.2
    clear q p
    go_region
    all_goals
      go_wp2_with (fail)
      generalize hwF : World.setCell (World.setCell (World.setCell (World.setCell (World.setCell (World.setCell (World.setCell (World.setCell (World.setCell (World.setCell w5 _ _) _ _) _ _) _ _) _ _) _ _) _ _) _ _) _ _) _ _ = wF
      obtain ⟨rF, rF1, hD⟩ := DBi.fin (op := op) HP.out HA5.out.1 HA5.out.2 HB5.out HT5.out HU5.out HTB.out.1 HTB.out.2 wF hwF.symm
      clear hwF r0 f0 r1 f1 q0 q1 q2 q3 q4 p0 p1 p2 p3 p4
      exact bodyPost_ret (v := .tuple #[.int .i64 op, vV k n s x A L c, vV k' n' s' x' A' L' c']) (by simp [results, Tryz.results36, go_sem, rF, rF1]) rfl (by first | exact hD | exact hD.drew)

end Go.Proofs.YtdglmnmalfpipaaGreatDoor.draw

