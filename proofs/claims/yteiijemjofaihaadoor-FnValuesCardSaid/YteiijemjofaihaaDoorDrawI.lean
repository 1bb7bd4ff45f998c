/-
  The model's draw of FnValues: a value, sometimes with very many items.
  Conditions: the bytes of the draw are at most 1048576.
-/
import Derived.Test.YteiijemjofaihaaDoorDrawA
import Derived.Maps.AppendAt
namespace Go.Proofs.YteiijemjofaihaaDoor.draw
open Go.ChangeShapes Go.WideShapes Go.ChangeAt Go.RowKit tree
set_option linter.unusedVariables false

/-- One more item without items behind it; the variable M of the caller's is none of the row's blocks. -/
theorem OwR.step {w w7 : World} {o : Obj} {lo M : Nat} {v v' : Value} {xs : List Value} {ks : List Ky} {vs : List Tr} (h : OwR w (fun b => lo < b ∧ b ≠ M ∧ Plain w b) v xs ks vs) (hM : M < w.heap.size) (hlo : lo ≤ w.heap.size)
    {y : Ky} {k n : Int} {s : ByteArray} (hy : I64 y.num ∧ y.str.size ≤ maxLen) (hk : I64 k ∧ I64 n ∧ s.size ≤ maxLen)
    (ho : w7.ownsRow 0 IE 8 v' (vs.length + 1) (xs ++ [.bool y.text, .int .i64 y.num, .string y.str, .int .i64 k, .int .i64 n, .string s, .int .i64 0, .slice none 0 0])) (hg : (w.alloc o).grownBy w7 v.ownBlock) (hat : v'.ownBlock = v.ownBlock ∨ v'.ownBlock = some (w.alloc o).heap.size) :
    OwR w7 (fun b => lo < b ∧ b ≠ M ∧ Plain w7 b) v' (xs ++ [.bool y.text, .int .i64 y.num, .string y.str, .int .i64 k, .int .i64 n, .string s, .int .i64 0, .slice none 0 0]) (ks ++ [y]) (vs ++ [.mk k n s 0 [] []]) := by
  have hsz : (w.alloc o).heap.size = w.heap.size + 1 := by simp
  have hor := (h.below (b1 w o)).more (Q := fun _ => False) (y := y) (k := k) (n := n) (s := s) (x := 0) (ks' := []) (vs' := []) (A := none) (c := 0) (v' := v') hy (flat ⟨hk.1, hk.2.1, by unfold I64; omega, hk.2.2⟩ _ _ none 0 (Nat.zero_le _)) (fun _ h => h.elim) ho hg hat
  have hgb : ∀ b, v'.ownBlock = some b → lo < b ∧ b ≠ M ∧ Plain w7 b := fun b e => by
    have hpl : Plain w7 b := by
      rcases ho.2 with ⟨rfl, h'⟩ | ⟨g, cap, cur, rfl, hlo, hgc, hr⟩
      · simp [Value.ownBlock] at e
      · simp [Value.ownBlock] at e
        subst e
        exact ⟨cur, IE, hgc⟩
    rcases hat with h' | h'
    · have := h.2.1 b (h' ▸ e); exact ⟨this.1, this.2.1, hpl⟩
    · rw [h', hsz] at e; injection e with e; exact ⟨by omega, by omega, hpl⟩
  refine hor.mono fun b hb => ?_
  rcases hb with (⟨hb, hne⟩ | hb) | hb
  · exact ⟨hb.1, hb.2.1, hb.2.2.same ((hg.block b (by have := hb.2.2.lt; omega) (fun e => hne e.symm)).trans ((b1 w o).block b hb.2.2.lt))⟩
  · exact hb.elim
  · exact hgb b hb

def DVal (w : World) (e : Ending) (w' : World) : Prop := ∃ (k n : Int) (s : ByteArray) (x : Int) (ks : List Ky) (vs : List Tr) (A : Option Addr) (L c : Nat), e = .returned (vV k n s x A L c) ∧ L = vs.length ∧
  TIn w' (Nw w.heap.size w') (.mk k n s x ks vs) (vV k n s x A L c) ∧ s.size + (vs.length + tots ks vs) ≤ 2000 ∧ Below w.heap.size w w'
theorem DVal.of {w w2 : World} {M : Nat} {k n x : Int} {s : ByteArray} {ks : List Ky} {vs : List Tr} {xs : List Value} {A : Option Addr} {L c : Nat} (hb : I64 k ∧ I64 n ∧ I64 x ∧ s.size ≤ maxLen) (hL : L = vs.length) (h5 : vs.length ≤ 1000)
    (hB : Below w.heap.size w w2) (hR : w2.heap[w.heap.size]? = some (.cells #[.int .i64 0, .int .i64 0, .string ⟨#[]⟩, .int .i64 0, .slice none 0 0] IV (0, 0))) (hO : OwR w2 (fun b => w.heap.size < b ∧ b ≠ M ∧ Plain w2 b) (.slice A L c) xs ks vs) (hT : s.size + (vs.length + tots ks vs) ≤ 2000) (wF : World)
    (hF : wF = ((((w2.setCell ⟨w.heap.size, 0, none⟩ (.int .i64 k)).setCell ⟨w.heap.size, 1, none⟩ (.int .i64 n)).setCell ⟨w.heap.size, 2, none⟩ (.string s)).setCell ⟨w.heap.size, 3, none⟩ (.int .i64 x)).setCell ⟨w.heap.size, 4, none⟩ (.slice A L c)) :
    (∀ j, wF.cell? ⟨w.heap.size, j, none⟩ = #[Value.int .i64 k, .int .i64 n, .string s, .int .i64 x, .slice A L c][j]?) ∧ DVal w (.returned (vV k n s x A L c)) wF := by
  obtain ⟨eF, oF, gF⟩ := put5 (.int .i64 k) (.int .i64 n) (.string s) (.int .i64 x) (.slice A L c) hR
  have hBF : Below w.heap.size w wF := by
    rw [hF]
    exact (((((hB.setCell (Nat.le_refl _) _).setCell (Nat.le_refl _) _).setCell (Nat.le_refl _) _).setCell (Nat.le_refl _) _).setCell (Nat.le_refl _) _)
  rw [← hF] at eF oF gF
  refine ⟨(rowc eF).1, k, n, s, x, ks, vs, A, L, c, rfl, hL, ?_, hT, hBF⟩
  have hO2 := (hO.keep (w' := wF) fun b hb _ => oF b (by have := hb.1; omega)).mono (P' := Nw w.heap.size wF) (fun b hb => ⟨Nat.le_of_lt hb.1, hb.2.2.same (oF b (by have := hb.1; omega))⟩)
  obtain ⟨A', c', e, hcap, hin⟩ := hO2.isinP (by unfold maxLen; omega)
  obtain ⟨rfl, rfl, rfl⟩ : A = A' ∧ L = vs.length ∧ c = c' := by simpa using e
  exact TIn.of c hb hin hcap

set_option maxRecDepth 100000 in
set_option maxHeartbeats 8000000 in
theorem drawIsValue (A0 : Option Addr) (n0 c0 : Nat) (hn : n0 ≤ 1048576) (w : World) (hA : Code w w.heap.size A0 n0) :
    Calls Tryd.prog 33 #[.slice A0 n0 c0] w (DVal w) := by
  have HA := Lib.hid hA
  clear hA
  obtain ⟨i0, hi, hzz⟩ := ie_info
  have HII := Lib.hid hi
  have HZZ := Lib.hid hzz
  clear hi hzz
  go_enter Tryd.func33, Tryd.ntmps33
  go_wp2_with (fail)
  have hcode : Code (w.alloc (.cells #[.int .i64 0, .int .i64 0, .string ⟨#[]⟩, .int .i64 0, .slice none 0 0] IV)) (w.alloc (.cells #[.int .i64 0, .int .i64 0, .string ⟨#[]⟩, .int .i64 0, .slice none 0 0] IV)).heap.size A0 n0 := HA.out.later (b1 w _)
  refine (new A0 n0 c0 hn _ hcode).mono ?_
  rintro e w1 ⟨N, rfl, hN, hC1, hb1⟩
  have hN' : w.heap.size < N := by have : w.heap.size + 1 ≤ N := by simpa using hN
                                   omega
  have HC1 := Lib.hid hC1
  have HB1 := Lib.hid (bs (b1 w _) hb1)
  have HER1 := Lib.hid (carry hb1 (heap_alloc_new w (.cells #[.int .i64 0, .int .i64 0, .string ⟨#[]⟩, .int .i64 0, .slice none 0 0] IV)))
  clear hC1 hb1 hN hcode HA
  go_wp2_with (fail)
  refine (drawA N _ HC1.out).mono ?_
  rintro e w2 ⟨k, n, s, x, ks, vs, xs, A, L, c, rfl, hbd, hL, h5, hO, hB, hC2, hg2⟩
  have hN1 := HC1.out.lt
  have HC2 := Lib.hid hC2
  have HB2 := Lib.hid (below_of HB1.out hg2 (by omega) HB1.out.size)
  have HER2 : Hid (w2.heap[w.heap.size]? = some (.cells #[.int .i64 0, .int .i64 0, .string ⟨#[]⟩, .int .i64 0, .slice none 0 0] IV (0, 0))) := Lib.hid ((hg2.block _ (Array.getElem?_eq_some_iff.1 HER1.out).1 (by intro h; injection h; omega)).trans HER1.out)
  have HBD := Lib.hid hbd
  have HTT := Lib.hid hB
  have HL := Lib.hid hL
  have hL5 : L ≤ 5 := by omega
  obtain ⟨M, HM⟩ : ∃ M, Hid (w2.heap.size = M) := ⟨_, Lib.hid rfl⟩
  have hWM : w.heap.size < M := by rw [← HM.out]; exact (Array.getElem?_eq_some_iff.1 HER2.out).1
  have hW1 : w.heap.size < w1.heap.size := (Array.getElem?_eq_some_iff.1 HER1.out).1
  have HO2 : Hid (OwR w2 (fun b => N < b ∧ b ≠ M ∧ Plain w2 b) (.slice A L c) xs ks vs) := Lib.hid (OwR.mono hO fun b hb => ⟨by have := hb.1; omega, by have := hb.2.lt; rw [HM.out] at this; omega, hb.2⟩)
  clear hbd hL hO hB hC2 hg2 HC1 HB1 HER1 hN1 h5
  go_wp2_with (fail)
  have nv := heap_alloc_new w2 (.cells #[.int .i64 k, .int .i64 n, .string s, .int .i64 x, .slice A L c] IV)
  have nb := b1 w2 (.cells #[.int .i64 k, .int .i64 n, .string s, .int .i64 x, .slice A L c] IV)
  refine (once N 9 (by omega) _ (HC2.out.below nb)).mono ?_
  rintro e w3 ⟨b, rfl, hC3, hg3⟩
  have hNM : N < M := by rw [← HM.out]; exact HC2.out.lt
  have HC3 := Lib.hid hC3
  have HB3 := Lib.hid (below_of (bs HB2.out nb) hg3 (by omega) (by have := HB2.out.size; simp; omega))
  have HER3 : Hid (w3.heap[w.heap.size]? = some (.cells #[.int .i64 0, .int .i64 0, .string ⟨#[]⟩, .int .i64 0, .slice none 0 0] IV (0, 0))) := Lib.hid ((hg3.block _ (by simp; rw [HM.out]; omega) (by intro h; injection h; omega)).trans (carry nb HER2.out))
  have HEV3 : Hid (w3.heap[M]? = some (.cells #[.int .i64 k, .int .i64 n, .string s, .int .i64 x, .slice A L c] IV (0, 0))) := Lib.hid (by have := (hg3.block w2.heap.size (by simp) (by rw [HM.out]; intro h; injection h; omega)).trans nv; rwa [HM.out] at this)
  have HO3 : Hid (OwR w3 (fun b => N < b ∧ b ≠ M ∧ Plain w3 b) (.slice A L c) xs ks vs) := Lib.hid (by
    have hs : ∀ b, (N < b ∧ b ≠ M ∧ Plain w2 b) → w3.heap[b]? = w2.heap[b]? := fun b hb => (hg3.block b (by have := hb.2.2.lt; simp; omega) (by intro h; injection h; omega)).trans (nb.block b hb.2.2.lt)
    exact (OwR.keep HO2.out fun b hb _ => hs b hb).mono fun b hb => ⟨hb.1, hb.2.1, hb.2.2.same (hs b hb)⟩)
  rw [HM.out]
  clear nv nb hC3 hg3 HC2 HER2 HO2 HB2
  obtain ⟨rr3, fr3⟩ := rowc HER3.out
  obtain ⟨rv3, fv3⟩ := rowc HEV3.out
  cases b with
  | false =>
    go_wp2_with (fail)
    generalize hwF : ((((((w3).setCell ⟨w.heap.size, 0, none⟩ (.int .i64 (k))).setCell ⟨w.heap.size, 1, none⟩ (.int .i64 (n))).setCell ⟨w.heap.size, 2, none⟩ (.string s)).setCell ⟨w.heap.size, 3, none⟩ (.int .i64 (x))).setCell ⟨w.heap.size, 4, none⟩ (.slice A L c)) = wF
    obtain ⟨rF, hD⟩ := DVal.of (M := M) (k := k) (n := n) (x := x) (s := s) (ks := ks) (vs := vs) (xs := xs) (A := A) (L := L) (c := c) (by have := HBD.out; unfold I64 at this ⊢; unfold maxLen; omega) HL.out (by have := HL.out; omega) HB3.out HER3.out (OwR.mono HO3.out fun b hb => ⟨by omega, hb.2.1, hb.2.2⟩) (by have := HTT.out; omega) wF hwF.symm
    clear rr3 fr3 rv3 fv3 hwF
    refine bodyPost_ret (v := .agg #[.int .i64 (k), .int .i64 (n), .string s, .int .i64 (x), .slice A L c]) ?_ rfl ?_
    · simp [results, Tryd.results33, go_sem, rF]
    · exact hD
  | true =>
    clear rr3 fr3 rv3 fv3
    go_wp2_with (fail)
    refine (below N 15 (by omega) _ HC3.out).mono ?_
    rintro e w4 ⟨j0, rfl, j00, j04, hC4, hg4⟩
    obtain ⟨j1, rfl⟩ := Int.eq_ofNat_of_zero_le j00
    have j05 : j1 ≤ 14 := by omega
    have HB4 := Lib.hid (below_of HB3.out hg4 (by omega) HB3.out.size)
    have HER4 := Lib.hid ((hg4.block _ (Array.getElem?_eq_some_iff.1 HER3.out).1 (by intro h; injection h; omega)).trans HER3.out)
    have HEV4 := Lib.hid ((hg4.block _ (Array.getElem?_eq_some_iff.1 HEV3.out).1 (by intro h; injection h; omega)).trans HEV3.out)
    have HO4 : Hid (OwR w4 (fun b => N < b ∧ b ≠ M ∧ Plain w4 b) (.slice A L c) xs ks vs) := Lib.hid (by
      have hs : ∀ b, (N < b ∧ b ≠ M ∧ Plain w3 b) → w4.heap[b]? = w3.heap[b]? := fun b hb => hg4.block b hb.2.2.lt (by intro h; injection h; omega)
      exact (OwR.keep HO3.out fun b hb _ => hs b hb).mono fun b hb => ⟨hb.1, hb.2.1, hb.2.2.same (hs b hb)⟩)
    clear hC4 hg4 HC3 HB3 HER3 HEV3 HO3 j00 j04
    go_wp2_with (fail)
    go_loopg [5] (190 + j1 + 1) (fun gk kk wr => ∃ (j : Nat) (A : Option Addr) (L c : Nat) (ks : List Ky) (vs : List Tr) (xs : List Value), kk = .int .i64 j ∧ gk = j + 1 ∧ j ≤ 204 ∧ L + j ≤ 209 ∧ Hid (wr.heap[w.heap.size]? = some (.cells #[.int .i64 0, .int .i64 0, .string ⟨#[]⟩, .int .i64 0, .slice none 0 0] IV (0, 0))) ∧
      Hid (wr.heap[M]? = some (.cells #[.int .i64 k, .int .i64 n, .string s, .int .i64 x, .slice A L c] IV (0, 0))) ∧ Hid (L = vs.length) ∧ Hid (OwR wr (fun b => N < b ∧ b ≠ M ∧ Plain wr b) (.slice A L c) xs ks vs) ∧ Hid (tots ks vs ≤ 1000) ∧ Hid (Below w.heap.size w wr))
    case atStart => exact ⟨190 + j1, A, L, c, ks, vs, xs, by go_num, by omega, by omega, by omega, HER4, HEV4, HL, HO4, Lib.hid (by have := HTT.out; omega), HB4⟩
    case round =>
      clear HER4 HEV4 HO4 HB4 HL HTT hL5
      obtain ⟨j, A, L, c, ks, vs, xs, rfl, hgj, hj4, hLj, HER, HEV, HL, HO, HTT, HB⟩ := hrel
      obtain ⟨rv, fv⟩ := rowc HEV.out
      by_cases hj : 0 < j
      · have hj' : (0 : Int) < (j : Int) := by omega
        have hcell : ∀ o, (wr.alloc o).cell? ⟨M, 4, none⟩ = some (.slice A L c) := fun o => (rowc (keepAlloc HEV.out)).1 4
        have HOW : Hid (∀ o, (wr.alloc o).ownsRow 0 IE 8 (.slice A L c) L xs) := Lib.hid fun o => by
          have := (HO.out.below (b1 wr o)).1
          rwa [← HL.out] at this
        go_wp2_with (first
          | (at_builtin; refine wpList_append_own_at _ rfl _ _ 24 rfl 0 IE i0 _ 8 96 Tryd.underlying24 HII.out HZZ.out.1 HZZ.out.2.1 HZZ.out.2.2 rfl (by decide) _ L _ rfl (HOW.out _) ⟨wr.heap.size, 0, none⟩ 1 1 [.bool false, .int .i64 j, .string ⟨#[]⟩, .int .i64 0, .int .i64 0, .string ⟨#[]⟩, .int .i64 0, .slice none 0 0] rfl rfl (eight_new wr _ _ _ _ _ _ _ _ _) (eight_one _ _ _ _ _ _ _ _ _ _) (by unfold maxLen; omega) (by omega) (Nat.zero_le _) ?_
             intro v' w7 hown hgrow hnil hat
             have hown2 : w7.ownsRow 0 IE 8 v' (vs.length + 1) (xs ++ [.bool false, .int .i64 j, .string ⟨#[]⟩, .int .i64 0, .int .i64 0, .string ⟨#[]⟩, .int .i64 0, .slice none 0 0]) := by
               rw [← HL.out]
               exact hown
             have hMw : M < wr.heap.size := (Array.getElem?_eq_some_iff.1 HEV.out).1
             have hst := OwR.step (lo := N) (M := M) (y := ⟨false, j, ⟨#[]⟩⟩) (k := 0) (n := 0) (s := ⟨#[]⟩) HO.out hMw (by omega) (show I64 (j : Int) ∧ ByteArray.size ⟨#[]⟩ ≤ maxLen from ⟨by unfold I64; omega, Nat.zero_le _⟩) ⟨by unfold I64; omega, by unfold I64; omega, Nat.zero_le _⟩ hown2 hgrow hat
             have HST := Lib.hid hst
             have hOB : ∀ b, (Value.slice A L c).ownBlock = some b → N < b ∧ b ≠ M := fun b e => ⟨(HO.out.2.1 b e).1, (HO.out.2.1 b e).2.1⟩
             have HER7 : Hid (w7.heap[w.heap.size]? = some (.cells #[.int .i64 0, .int .i64 0, .string ⟨#[]⟩, .int .i64 0, .slice none 0 0] IV (0, 0))) := Lib.hid ((hgrow.block _ (by have := (Array.getElem?_eq_some_iff.1 HER.out).1; simp; omega) (fun e => by have := hOB _ e.symm; omega)).trans (keepAlloc HER.out))
             have HEV7 : Hid (w7.heap[M]? = some (.cells #[.int .i64 k, .int .i64 n, .string s, .int .i64 x, .slice A L c] IV (0, 0))) := Lib.hid ((hgrow.block _ (by simp; omega) (fun e => by have := hOB _ e.symm; omega)).trans (keepAlloc HEV.out))
             have HB7 : Hid (Below w.heap.size w w7) := Lib.hid ((HB.out.alloc HB.out.size _).grown hgrow (by have := HB.out.size; simp; omega) (fun b e => by have := hOB b e; omega))
             obtain ⟨g3, c3, rfl⟩ : ∃ g3 c3, v' = .slice (some ⟨g3, 0, none⟩) (L + 1) c3 := by
               rcases hown.2 with ⟨-, h⟩ | ⟨g, cap, cur, h, -⟩
               · omega
               · exact ⟨g, cap, h⟩
             obtain ⟨t7, ft7⟩ := rowc HEV7.out
             clear hown hown2 hgrow hnil hat hst hOB rv fv hcell)
          | fail)
        go_roundg j
        case rel => exact ⟨j - 1, some ⟨g3, 0, none⟩, L + 1, c3, ks ++ [⟨false, j, ⟨#[]⟩⟩], vs ++ [.mk 0 0 ⟨#[]⟩ 0 [] []], _, by go_num, by omega, by omega, by omega, Lib.hid ((set_other (by omega)).trans HER7.out), Lib.hid (by have := set_heap HEV7.out 4 (.slice (some ⟨g3, 0, none⟩) (L + 1) c3); simpa using this), Lib.hid (by rw [HL.out]; simp), Lib.hid ((OwR.keep HST.out fun b hb _ => set_other hb.2.1).mono fun b hb => ⟨hb.1, hb.2.1, hb.2.2.same (set_other hb.2.1)⟩), Lib.hid (by rw [tots_snoc _ _ _ _ HO.out.2.2.1, tot_mk]; have := HTT.out; have h : tots [] [] = 0 := (by simp [tots]); show tots ks vs + (0 + (0 + (0 + tots [] []))) ≤ 1000; omega), Lib.hid (HB7.out.setCell (Nat.le_of_lt hWM) _)⟩
        case measure => omega
      · obtain rfl : j = 0 := by omega
        obtain ⟨rr, fr⟩ := rowc HER.out
        go_wp2_with (fail)
        generalize hwV : (((((wr).setCell ⟨M, 0, none⟩ (.int .i64 4)).setCell ⟨M, 1, none⟩ (.int .i64 0)).setCell ⟨M, 2, none⟩ (.string ⟨#[]⟩)).setCell ⟨M, 3, none⟩ (.int .i64 1000)) = wV
        have hER : wV.heap[w.heap.size]? = some (.cells #[.int .i64 0, .int .i64 0, .string ⟨#[]⟩, .int .i64 0, .slice none 0 0] IV (0, 0)) := by rw [← hwV, set_other (by omega), set_other (by omega), set_other (by omega), set_other (by omega)]; exact HER.out
        have hoth : ∀ b, b ≠ M → wV.heap[b]? = wr.heap[b]? := fun b hb => by rw [← hwV, set_other hb, set_other hb, set_other hb, set_other hb]
        have hBV : Below w.heap.size w wV := by rw [← hwV]; exact ((((HB.out.setCell (Nat.le_of_lt hWM) _).setCell (Nat.le_of_lt hWM) _).setCell (Nat.le_of_lt hWM) _).setCell (Nat.le_of_lt hWM) _)
        have hOV : OwR wV (fun b => w.heap.size < b ∧ b ≠ M ∧ Plain wV b) (.slice A L c) xs ks vs := (OwR.keep HO.out fun b hb _ => hoth b hb.2.1).mono fun b hb => ⟨by omega, hb.2.1, hb.2.2.same (hoth b hb.2.1)⟩
        generalize hwF : ((((((wV).setCell ⟨w.heap.size, 0, none⟩ (.int .i64 (4))).setCell ⟨w.heap.size, 1, none⟩ (.int .i64 (0))).setCell ⟨w.heap.size, 2, none⟩ (.string ⟨#[]⟩)).setCell ⟨w.heap.size, 3, none⟩ (.int .i64 (1000))).setCell ⟨w.heap.size, 4, none⟩ (.slice A L c)) = wF
        obtain ⟨rF, hD⟩ := DVal.of (M := M) (k := 4) (n := 0) (x := 1000) (s := ⟨#[]⟩) (ks := ks) (vs := vs) (xs := xs) (A := A) (L := L) (c := c) ⟨by unfold I64; omega, by unfold I64; omega, by unfold I64; omega, Nat.zero_le _⟩ HL.out (by have := HL.out; omega) hBV hER hOV (by have := HTT.out; have := HL.out; show 0 + (vs.length + tots ks vs) ≤ 2000; omega) wF hwF.symm
        clear rv fv rr fr hER hoth hBV hOV hwV hwF
        refine bodyPost_ret (v := .agg #[.int .i64 (4), .int .i64 (0), .string ⟨#[]⟩, .int .i64 (1000), .slice A L c]) ?_ rfl ?_
        · simp [results, Tryd.results33, go_sem, rF]
        · exact hD

end Go.Proofs.YteiijemjofaihaaDoor.draw
