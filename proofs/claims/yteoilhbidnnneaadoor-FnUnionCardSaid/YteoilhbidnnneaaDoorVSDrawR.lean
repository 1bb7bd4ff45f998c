/-
  The model's draw of an array.
  Conditions: the cursor's block.
-/
import Derived.Test.YteoilhbidnnneaaDoorVSDrawA
import Derived.Test.YteoilhbidnnneaaDoorUSSetP
import Derived.Deep.RegionWith
namespace Go.Proofs.YteoilhbidnnneaaDoor.draw
open Go.ChangeShapes Go.WideShapes Go.ChangeAt Go.RowKit tree
set_option linter.unusedVariables false

def DArr (N : Nat) (w : World) (e : Ending) (w' : World) : Prop := ∃ (v : Value) (t : Tr), e = .returned v ∧ TIn w' (Nw w.heap.size w') t v ∧ tot t ≤ 2000 ∧ Cur w' N ∧ w.grownBy w' (some N)
abbrev Z5r : Obj := .cells #[.int .i64 0, .int .i64 0, .string ⟨#[]⟩, .int .i64 0, .slice none 0 0] IV (0, 0)
theorem DArr.fin {N P : Nat} {w w4 : World} {T : Tr} {k n x : Int} {s : ByteArray} {A : Option Addr} {L c : Nat} (hP : w.heap.size = P) (hNP : N < P) (h0 : w4.heap[P]? = some Z5r) (hG : w.grownBy w4 (some N)) (hC : Cur w4 N)
    (hT : TIn w4 (Nw (P + 1) w4) T (vV k n s x A L c)) (hb : tot T ≤ 2000) (wF : World)
    (hF : wF = ((((w4.setCell ⟨P, 0, none⟩ (.int .i64 k)).setCell ⟨P, 1, none⟩ (.int .i64 n)).setCell ⟨P, 2, none⟩ (.string s)).setCell ⟨P, 3, none⟩ (.int .i64 x)).setCell ⟨P, 4, none⟩ (.slice A L c)) :
    (∀ j, wF.cell? ⟨P, j, none⟩ = #[Value.int .i64 k, .int .i64 n, .string s, .int .i64 x, .slice A L c][j]?) ∧ DArr N w (.returned (vV k n s x A L c)) wF := by
  obtain ⟨e1, o1, g1⟩ := put5 (.int .i64 k) (.int .i64 n) (.string s) (.int .i64 x) (.slice A L c) h0
  rw [← hF] at e1 o1 g1
  exact ⟨(rowc e1).1, _, T, rfl, hT.nw (by omega) fun b hb _ => o1 b (by omega), hb, Cur.upto hC fun b hb => o1 b (by omega), g1 w N (by omega) hG⟩
/-- The tree of a variable in block M, behind block P. -/
def SM (P M : Nat) (w : World) (b : Nat) : Prop := (P < b ∧ b ≠ M) ∧ Plain w b
theorem tin_sm {w w' : World} {P M : Nat} {t : Tr} {v : Value} (h : TIn w (SM P M w) t v) (hs : ∀ b, P < b → b ≠ M → b < w.heap.size → w'.heap[b]? = w.heap[b]?) : TIn w' (SM P M w') t v :=
  h.stays (fun b hb => ⟨hb.1, hb.2.same (hs b hb.1.1 hb.1.2 hb.2.lt)⟩) fun b hb hl => hs b hb.1.1 hb.1.2 hl

set_option maxRecDepth 100000 in
set_option maxHeartbeats 4000000 in
theorem drawArr (N : Nat) (w : World) (hC : Cur w N) : Calls Tryd.prog 25 #[.pointer (some ⟨N, 0, none⟩)] w (DArr N w) := by
  have hN0 := hC.lt
  have HC := Lib.hid hC
  clear hC
  obtain ⟨P, HP⟩ : ∃ P, Hid (w.heap.size = P) := ⟨_, Lib.hid rfl⟩
  have hNP : N < P := by rw [← HP.out]; exact hN0
  go_enter Tryd.func25, Tryd.ntmps25
  go_wp2_with (fail)
  rw [HP.out]
  refine (arrV _).mono ?_
  rintro e w1 ⟨rfl, hb1⟩
  have HP1 : Hid (w1.heap[P]? = some Z5r) := Lib.hid (carry hb1 (by rw [← HP.out]; exact heap_alloc_new w _))
  have HB1 := Lib.hid (bs (b1 w _) hb1)
  have HZ1 : Hid (P < w1.heap.size) := Lib.hid (Array.getElem?_eq_some_iff.1 HP1.out).1
  have HC1 : Hid (Cur w1 N) := Lib.hid (HC.out.below HB1.out)
  clear hb1 HC
  go_wp2_with (fail)
  obtain ⟨M, HM⟩ : ∃ M, Hid (w1.heap.size = M) := ⟨_, Lib.hid rfl⟩
  rw [HM.out]
  have hPM : P < M := by rw [← HM.out]; exact HZ1.out
  generalize hw2 : w1.alloc (.cells #[.int .i64 4, .int .i64 0, .string ⟨#[]⟩, .int .i64 0, .slice none 0 0] IV) = w2
  have hb2 : Below w1.heap.size w1 w2 := hw2 ▸ b1 w1 _
  have hm2 : w2.heap[M]? = some (.cells #[.int .i64 4, .int .i64 0, .string ⟨#[]⟩, .int .i64 0, .slice none 0 0] IV (0, 0)) := by rw [← hw2, ← HM.out]; exact heap_alloc_new w1 _
  refine (below N 6 (by omega) _ (HC1.out.below hb2)).mono ?_
  rintro e w3 ⟨q, rfl, q0, q1, hC3, hg3⟩
  obtain ⟨k0, rfl⟩ := Int.eq_ofNat_of_zero_le q0
  have k05 : k0 ≤ 5 := by omega
  have HC3 := Lib.hid hC3
  have HG3 := Lib.hid (only_trans (grown_of_below (bs HB1.out hb2) N) hg3)
  have HP3 := Lib.hid (past hg3 (carry hb2 HP1.out) hNP)
  have HM3 := Lib.hid (past hg3 hm2 (by omega))
  clear hw2 hb2 hm2 hC3 hg3 HC1 HB1 HP1 HZ1 q0 q1
  go_wp2_with (fail)
  go_loopg [4] (k0 + 1) (fun gk k wr => ∃ (j : Nat) (T : Tr) (n x : Int) (s : ByteArray) (A : Option Addr) (L c : Nat), k = .int .i64 j ∧ gk = j + 1 ∧ j ≤ 5 ∧ Hid (wr.heap[P]? = some Z5r) ∧ Hid (wr.heap[M]? = some (.cells #[.int .i64 4, .int .i64 n, .string s, .int .i64 x, .slice A L c] IV (0, 0))) ∧ Hid (TIn wr (SM P M wr) T (vV 4 n s x A L c)) ∧
    Hid (tot T ≤ 100 * (5 - j)) ∧ Hid (∀ k n s x ks vs, T = .mk k n s x ks vs → k = 4) ∧ Hid (Cur wr N) ∧ Hid (w.grownBy wr (some N)))
  case atStart => exact ⟨k0, .mk 4 0 ⟨#[]⟩ 0 [] [], 0, 0, ⟨#[]⟩, none, 0, 0, rfl, rfl, k05, HP3, HM3, Lib.hid (flat ⟨by unfold I64; omega, by unfold I64; omega, by unfold I64; omega, Nat.zero_le _⟩ _ _ none 0 (Nat.zero_le _)), Lib.hid (by rw [tot_mk]; simp [tots]; exact Nat.zero_le _), Lib.hid (fun k n s x ks vs e => by injection e with e1; omega), HC3, HG3⟩
  case round =>
    clear HC3 HG3 HP3 HM3 k05
    obtain ⟨j, T, n, x, s, A, L, c, rfl, hgj, hj5, HP3, HM3, HTI, HTB, HK4, HC3, HG3⟩ := hrel
    have HZ3 : Hid (M < wr.heap.size) := Lib.hid (Array.getElem?_eq_some_iff.1 HM3.out).1
    have q := rowc HM3.out
    have q0 := q.1 0; have q1 := q.1 1; have q2 := q.1 2; have q3 := q.1 3; have q4 := q.1 4
    simp at q0 q1 q2 q3 q4
    clear q
    by_cases hj : 0 < j
    · have hj' : (0 : Int) < (j : Int) := by omega
      go_wp2_with (fail)
      go_region_with (first
        | (go_at_call 49; refine (key N _ ?_).mono ?_; (first | exact HC3.out | exact HC3.out.below ((Below.refl _ _).drew)); rintro e w4 ⟨y, rfl, hyb, hC4, hg4⟩; replace hg4 : wr.grownBy w4 (some N) := (by first | exact hg4 | exact only_trans (grown_of_below ((Below.refl wr.heap.size wr).drew) N) hg4); have HYB := Lib.hid hyb; have HC4 := Lib.hid hC4; have HG4 := Lib.hid hg4; have HM4 := Lib.hid (past hg4 HM3.out (by omega)); have q := rowc HM4.out; have q0 := q.1 0; have q1 := q.1 1; have q2 := q.1 2; have q3 := q.1 3; have q4 := q.1 4; simp at q0 q1 q2 q3 q4; clear q hyb hC4 hg4)
        | (go_at_call 50; refine (drawT N 1 1 rfl (by omega) _ ?_).mono ?_; (first | exact HC4.out | exact HC4.out.below ((Below.refl _ _).drew)); rintro e w5 ⟨ku, nu, su, xu, ksu, vsu, Au, Lu, cu, rfl, hbu, hLu, h4u, hOu, hBu, hC5, hg5⟩; replace hg5 : w4.grownBy w5 (some N) := (by first | exact hg5 | exact only_trans (grown_of_below ((Below.refl w4.heap.size w4).drew) N) hg5); have HU := Lib.hid (And.intro hbu (And.intro hLu (And.intro h4u (And.intro hOu hBu)))); have HC5 := Lib.hid hC5; have HG5 := Lib.hid hg5; have HM5 := Lib.hid (past hg5 HM4.out (by omega)); have q := rowc HM5.out; have q0 := q.1 0; have q1 := q.1 1; have q2 := q.1 2; have q3 := q.1 3; have q4 := q.1 4; simp at q0 q1 q2 q3 q4; clear q hbu hLu h4u hOu hBu hC5 hg5)
        | (go_at_call 48
           have HTS : Hid (TIn w5 (SM P M w5) T (vV 4 n s x A L c)) := Lib.hid (tin_sm (tin_sm HTI.out fun b hb _ hl => HG4.out.block b hl (ne_of (by omega))) fun b hb _ hl => HG5.out.block b hl (ne_of (by omega)))
           have HUS : Hid (TIn w5 (SM P M w5) (.mk ku nu su xu ksu vsu) (vV ku nu su xu Au Lu cu) ∧ tot (.mk ku nu su xu ksu vsu) ≤ 60) := Lib.hid (by
             obtain ⟨hbu, hLu, h4u, hOu, hBu⟩ := HU.out
             obtain ⟨A2, c2, e2, hc2, hin2⟩ := hOu.isin (by unfold maxLen; omega)
             obtain ⟨rfl, -, rfl⟩ : Au = A2 ∧ Lu = vsu.length ∧ cu = c2 := by simpa using e2
             have := TIn.of (k := ku) (n := nu) (s := su) (x := xu) cu (by unfold I64 maxLen; omega) hin2 hc2
             rw [← hLu] at this
             have hz : M < w4.heap.size := Nat.lt_of_lt_of_le HZ3.out HG4.out.size
             exact ⟨this.stays (fun b hb => ⟨⟨by have := hb.1; first | omega | (show P < b; have h := hb.1; simp at h; omega), by have := hb.1; first | omega | (have h := hb.1; simp at h; omega)⟩, hb.2⟩) (fun _ _ _ => rfl), by rw [tot_mk]; have : dB 1 = 52 := rfl; omega⟩)
           refine (l6Set_p T _ y (.mk ku nu su xu ksu vsu) _ _ _ HTS.out HUS.out.1 (by have := HYB.out; unfold I64 maxLen; omega) (by have := cnt_tot T HTS.out.fits; have := HTB.out; omega) HK4.out (fun _ => by have := HYB.out; omega)).mono ?_
           rintro e w6 ⟨r, rfl, hr, hb6⟩
           have HTT : Hid (tot (setT T y (.mk ku nu su xu ksu vsu)) ≤ 100 * (5 - (j - 1))) := Lib.hid (by have h1 := setT_tot T y (.mk ku nu su xu ksu vsu) HTS.out.fits; have h2 := HTB.out; have h3 := HUS.out.2; have h4 := HYB.out; omega)
           have HKT : Hid (∀ k n s x ks vs, setT T y (.mk ku nu su xu ksu vsu) = .mk k n s x ks vs → k = 4) := Lib.hid (fun k n s x ks vs e => by
             obtain ⟨kt, nt, st, xt, kst, vst⟩ := T
             have h4 := HK4.out _ _ _ _ _ _ rfl
             rw [setT] at e
             split at e <;> (injection e with e1; omega))
           have hz5 : M < w5.heap.size := Nat.lt_of_lt_of_le HZ3.out (Nat.le_trans HG4.out.size HG5.out.size)
           have HR6 : Hid (TIn w6 (SM P M w6) (setT T y (.mk ku nu su xu ksu vsu)) r) := Lib.hid (hr.stays (fun b hb => by
             rcases hb with h | ⟨h1, h2⟩
             · exact ⟨h.1, h.2.same (hb6.block b h.2.lt)⟩
             · exact ⟨⟨by omega, by omega⟩, h2⟩) (fun _ _ _ => rfl))
           generalize setT T y (.mk ku nu su xu ksu vsu) = T6 at HTT HKT HR6
           obtain ⟨k6, n6, s6, x6, ks6, vs6⟩ := T6
           obtain rfl := HKT.out _ _ _ _ _ _ rfl
           obtain ⟨A6, c6, rfl, -, -⟩ := HR6.out.out
           obtain ⟨L6, HL6⟩ : ∃ L, Hid (vs6.length = L) := ⟨_, Lib.hid rfl⟩
           rw [HL6.out] at HR6 ⊢
           have HC6 := Lib.hid (HC5.out.below hb6)
           have HG6 := Lib.hid (only_trans (only_trans (only_trans HG3.out HG4.out) HG5.out) (grown_of_below hb6 N))
           have HM6 := Lib.hid (carry hb6 HM5.out)
           have HP6 := Lib.hid (carry hb6 (past HG5.out (past HG4.out HP3.out hNP) hNP))
           obtain ⟨rM, fM⟩ := rowc HM6.out
           clear hr hb6 hz5 q0 q1 q2 q3 q4 HM5 HM4 HU))
      all_goals
        go_wp2_with (fail)
        generalize hw7 : World.setCell (World.setCell (World.setCell (World.setCell (World.setCell w6 _ _) _ _) _ _) _ _) _ _ = w7
        obtain ⟨e7, o7, g7⟩ := put5 (.int .i64 4) (.int .i64 n6) (.string s6) (.int .i64 x6) (.slice A6 L6 c6) HM6.out
        rw [hw7] at e7 o7 g7
        go_roundg j
        case rel => exact ⟨j - 1, _, n6, x6, s6, A6, L6, c6, by go_num, by omega, by omega, Lib.hid ((o7 P (by omega)).trans HP6.out), Lib.hid e7, Lib.hid (tin_sm (w' := _) HR6.out fun b _ hb _ => o7 b hb), HTT, HKT, Lib.hid (Cur.upto HC6.out fun b hb => o7 b (by omega)), Lib.hid (only_trans (g7 w N (by rw [HP.out]; omega) HG6.out) (by first | exact grown_of_below (Below.refl _ _) N | exact grown_of_below ((Below.refl _ _).drew) N))⟩
        case measure => omega
    · obtain rfl : j = 0 := by omega
      go_wp2_with (fail)
      refine (once N 6 (by omega) _ HC3.out).mono ?_
      rintro e w4 ⟨b, rfl, hC4, hg4⟩
      have HC4 := Lib.hid hC4
      have HG4 := Lib.hid (only_trans HG3.out hg4)
      have HP4 := Lib.hid (past hg4 HP3.out hNP)
      have HM4 := Lib.hid (past hg4 HM3.out (by omega))
      have HT4 := Lib.hid (tin_sm HTI.out (w' := w4) fun b hb _ hl => hg4.block b hl (ne_of (by omega)))
      have HZ4 : Hid (P < w4.heap.size) := Lib.hid (Array.getElem?_eq_some_iff.1 HP4.out).1
      clear hC4 hg4 HC3 HG3 HP3 HM3 HTI q0 q1 q2 q3 q4
      cases b with
      | false =>
        have q := rowc HM4.out
        have q0 := q.1 0; have q1 := q.1 1; have q2 := q.1 2; have q3 := q.1 3; have q4 := q.1 4
        simp at q0 q1 q2 q3 q4
        obtain ⟨r0, f0⟩ := rowc HP4.out
        clear q
        go_wp2_with (fail)
        generalize hwF : World.setCell (World.setCell (World.setCell (World.setCell (World.setCell w4 _ _) _ _) _ _) _ _) _ _ = wF
        obtain ⟨rF, hD⟩ := DArr.fin (T := T) HP.out hNP HP4.out HG4.out HC4.out (HT4.out.stays (fun b hb => ⟨hb.1.1, hb.2⟩) (fun _ _ _ => rfl)) (by have := HTB.out; omega) wF hwF.symm
        clear hwF r0 f0 q0 q1 q2 q3 q4
        exact bodyPost_ret (v := vV 4 n s x A L c) (by simp [results, Tryd.results25, go_sem, rF]) rfl hD
      | true =>
        go_wp2_with (fail)
        refine (drawA N _ HC4.out).mono ?_
        rintro e w5 ⟨ka, na, sa, xa, ksa, vsa, xsa, Aa, La, ca, rfl, hba, hLa, h5a, hOa, hBa, hC5, hg5⟩
        obtain ⟨A2, c2, e2, hc2, hin2⟩ := hOa.isin (by unfold maxLen; omega)
        obtain ⟨rfl, -, rfl⟩ : Aa = A2 ∧ La = vsa.length ∧ ca = c2 := by simpa using e2
        have hT := TIn.of (k := ka) (n := na) (s := sa) (x := xa) ca (by unfold I64 at hba ⊢; unfold maxLen; omega) hin2 hc2
        rw [← hLa] at hT
        have HT5 := Lib.hid (hT.stays (S' := Nw (P + 1) w5) (fun b hb => ⟨Nat.le_trans HZ4.out hb.1, hb.2⟩) (fun _ _ _ => rfl))
        have HB5 : Hid (tot (.mk ka na sa xa ksa vsa) ≤ 2000) := Lib.hid (by rw [tot_mk]; omega)
        have HC5 := Lib.hid hC5
        have HG5 := Lib.hid (only_trans HG4.out hg5)
        have HP5 := Lib.hid (past hg5 HP4.out hNP)
        obtain ⟨r0, f0⟩ := rowc HP5.out
        clear hba hLa h5a hOa hBa hC5 hg5 e2 hc2 hin2 hT HC4 HG4 HP4 HM4 HT4
        go_wp2_with (fail)
        generalize hwF : World.setCell (World.setCell (World.setCell (World.setCell (World.setCell w5 _ _) _ _) _ _) _ _) _ _ = wF
        obtain ⟨rF, hD⟩ := DArr.fin (T := .mk ka na sa xa ksa vsa) HP.out hNP HP5.out HG5.out HC5.out HT5.out HB5.out wF hwF.symm
        clear hwF r0 f0
        exact bodyPost_ret (v := vV ka na sa xa Aa La ca) (by simp [results, Tryd.results25, go_sem, rF]) rfl hD

end Go.Proofs.YteoilhbidnnneaaDoor.draw

