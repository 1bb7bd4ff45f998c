/-
  The model's draw of a value of at most some depth.
  Conditions: the cursor's block.
-/
import Derived.Test.YtdglmnmalfpipaaGreatDoorVB11
import Derived.Test.YtdglmnmalfpipaaGreatDoorVB8
import Derived.Test.YtdglmnmalfpipaaGreatDoorVB4
import Derived.Test.YtdglmnmalfpipaaGreatDoorVB1
import Derived.Deep.AppendLies
import Derived.Deep.RegionHeld3
import Derived.Deep.LoopGhost
import Derived.Deep.CutBlock
import Derived.Deep.DeepCutAuto
namespace Go.Proofs.YtdglmnmalfpipaaGreatDoor.draw
open Go.ChangeShapes Go.WideShapes Go.ChangeAt Go.RowKit tree
set_option linter.unusedVariables false

theorem tots_snoc : ∀ (ks : List Ky) (vs : List Tr) (y : Ky) (u : Tr), ks.length = vs.length → tots (ks ++ [y]) (vs ++ [u]) = tots ks vs + (y.str.size + tot u)
  | [], [], y, u, _ => by simp [tots_cons, tots]
  | k :: ks, v :: vs, y, u, h => by
    rw [List.cons_append, List.cons_append, tots_cons, tots_cons, tots_snoc ks vs y u (by simpa using h)]
    omega
/-- Items in a row of the call's own, all of whose blocks are plain and lie at lo or above. -/
def OwQ (w : World) (lo : Nat) (v : Value) (ks : List Ky) (vs : List Tr) : Prop := ∃ xs, OwP w lo v xs ks vs
section
variable {w w' : World} {lo lo' : Nat} {v : Value} {ks : List Ky} {vs : List Tr}
theorem OwQ.nil (w : World) (lo : Nat) : OwQ w lo (.slice none 0 0) [] [] := ⟨[], OwP.nil w lo⟩
theorem OwQ.above (h : OwQ w lo v ks vs) (hs : ∀ b, lo ≤ b → b < w.heap.size → w'.heap[b]? = w.heap[b]?) : OwQ w' lo v ks vs := h.imp fun xs h => OwP.above h hs
theorem OwQ.below (h : OwQ w lo v ks vs) (hb : Below w.heap.size w w') : OwQ w' lo v ks vs := h.imp fun xs h => OwP.below h hb
theorem OwQ.mono (h : OwQ w lo v ks vs) (hl : lo' ≤ lo) : OwQ w lo' v ks vs := h.imp fun xs h => OwP.mono h hl
theorem OwQ.block (h : OwQ w lo v ks vs) : ∀ k, v.ownBlock = some k → lo ≤ k ∧ k < w.heap.size := by obtain ⟨xs, h⟩ := h; exact OwP.block h
theorem OwQ.len (h : OwQ w lo v ks vs) : ks.length = vs.length := by obtain ⟨xs, h⟩ := h; exact OwP.len h
theorem OwQ.isin (h : OwQ w lo v ks vs) (hm : vs.length ≤ maxLen) : ∃ A c, v = .slice A vs.length c ∧ (vs.length ≤ c ∧ c ≤ maxLen) ∧ IsIn w (Nw lo w) ks vs A := by obtain ⟨xs, h⟩ := h; exact OwP.isin h hm
end
/-- How much a drawn value holds at most, by its depth. -/
def dB : Nat → Nat
  | 0 => 10
  | d + 1 => 4 + 4 * (2 + dB d)
theorem dB_ge : ∀ d, 10 ≤ dB d
  | 0 => Nat.le_refl _
  | d + 1 => by have := dB_ge d; rw [dB]; omega
theorem dB_le {d : Nat} (h : d ≤ 3) : dB d ≤ 892 := by
  obtain rfl | rfl | rfl | rfl : d = 0 ∨ d = 1 ∨ d = 2 ∨ d = 3 := by omega
  all_goals decide
/-- A drawn value: its items lie in a row of its own. -/
def DTr (N B : Nat) (w : World) (e : Ending) (w' : World) : Prop := ∃ (k n : Int) (s : ByteArray) (x : Int) (ks : List Ky) (vs : List Tr) (A : Option Addr) (L c : Nat), e = .returned (vV k n s x A L c) ∧
  (0 ≤ k ∧ k ≤ 4 ∧ -1000000000 ≤ n ∧ n ≤ 1000000000 ∧ 0 ≤ x ∧ x ≤ 1000000001 ∧ s.size ≤ 10) ∧ L = vs.length ∧ vs.length ≤ 4 ∧ OwQ w' w.heap.size (.slice A L c) ks vs ∧ s.size + (vs.length + tots ks vs) ≤ B ∧ Cur w' N ∧ w.grownBy w' (some N)
theorem DTr.of {N B : Nat} {w w2 : World} {k n x : Int} {s : ByteArray} {ks : List Ky} {vs : List Tr} {A : Option Addr} {L c : Nat} (hb : 0 ≤ k ∧ k ≤ 4 ∧ -1000000000 ≤ n ∧ n ≤ 1000000000 ∧ 0 ≤ x ∧ x ≤ 1000000001 ∧ s.size ≤ 10) (hL : L = vs.length) (h4 : vs.length ≤ 4)
    (hN : N < w.heap.size) (hC : Cur w2 N) (hg : w.grownBy w2 (some N)) (hR : w2.heap[w.heap.size]? = some (.cells #[.int .i64 0, .int .i64 0, .string ⟨#[]⟩, .int .i64 0, .slice none 0 0] IV (0, 0))) (hO : OwQ w2 (w.heap.size + 1) (.slice A L c) ks vs) (hB : s.size + (vs.length + tots ks vs) ≤ B) (wF : World)
    (hF : wF = ((((w2.setCell ⟨w.heap.size, 0, none⟩ (.int .i64 k)).setCell ⟨w.heap.size, 1, none⟩ (.int .i64 n)).setCell ⟨w.heap.size, 2, none⟩ (.string s)).setCell ⟨w.heap.size, 3, none⟩ (.int .i64 x)).setCell ⟨w.heap.size, 4, none⟩ (.slice A L c)) :
    (∀ j, wF.cell? ⟨w.heap.size, j, none⟩ = #[Value.int .i64 k, .int .i64 n, .string s, .int .i64 x, .slice A L c][j]?) ∧ DTr N B w (.returned (vV k n s x A L c)) wF := by
  obtain ⟨eF, oF, gF⟩ := put5 (.int .i64 k) (.int .i64 n) (.string s) (.int .i64 x) (.slice A L c) hR
  rw [← hF] at eF oF gF
  exact ⟨(rowc eF).1, k, n, s, x, ks, vs, A, L, c, rfl, hb, hL, h4, OwQ.mono (hO.above fun b hb _ => oF b (by omega)) (by omega), hB, Cur.upto hC fun k hk => oF k (by omega), gF w N (Nat.le_refl _) hg⟩
/-- A variable of three cells made and filled. -/
theorem newbox3 {w wF : World} {t : TypeId} {a b c c0 c1 c2 : Value} (hF : (((w.alloc (.cells #[a, b, c] t)).setCell ⟨w.heap.size, 0, none⟩ c0).setCell ⟨w.heap.size, 1, none⟩ c1).setCell ⟨w.heap.size, 2, none⟩ c2 = wF) :
    wF.heap[w.heap.size]? = some (.cells #[c0, c1, c2] t (0, 0)) ∧ Below w.heap.size w wF ∧ wF.heap.size = w.heap.size + 1 := by
  subst hF
  refine ⟨?_, ?_, by simp []⟩
  · have := set_heap (set_heap (set_heap (heap_alloc_new w (.cells #[a, b, c] t)) 0 c0) 1 c1) 2 c2
    simpa using this
  · exact (((b1 w _).setCell (Nat.le_refl _) _).setCell (Nat.le_refl _) _).setCell (Nat.le_refl _) _
theorem newbox5 {w wF : World} {t : TypeId} {a b c d e c0 c1 c2 c3 c4 : Value}
    (hF : ((((((w.alloc (.cells #[a, b, c, d, e] t)).setCell ⟨w.heap.size, 0, none⟩ c0).setCell ⟨w.heap.size, 1, none⟩ c1).setCell ⟨w.heap.size, 2, none⟩ c2).setCell ⟨w.heap.size, 3, none⟩ c3).setCell ⟨w.heap.size, 4, none⟩ c4) = wF) :
    wF.heap[w.heap.size]? = some (.cells #[c0, c1, c2, c3, c4] t (0, 0)) ∧ Below w.heap.size w wF ∧ wF.heap.size = w.heap.size + 1 := by
  subst hF
  refine ⟨?_, ?_, by simp []⟩
  · have := set_heap (set_heap (set_heap (set_heap (set_heap (heap_alloc_new w (.cells #[a, b, c, d, e] t)) 0 c0) 1 c1) 2 c2) 3 c3) 4 c4
    simpa using this
  · exact (((((b1 w _).setCell (Nat.le_refl _) _).setCell (Nat.le_refl _) _).setCell (Nat.le_refl _) _).setCell (Nat.le_refl _) _).setCell (Nat.le_refl _) _
theorem ne_of {N b : Nat} (h : N < b) : (some b : Option Nat) ≠ some N := by intro h'; injection h'; omega
theorem grown_app {w w6 w7 : World} {N : Nat} {o : Obj} {row : Option Nat} (hg : w.grownBy w6 (some N)) (h : (w6.alloc o).grownBy w7 row) (hr : ∀ b, row = some b → w.heap.size ≤ b) : w.grownBy w7 (some N) := by
  have hg := only_trans hg (World.grownBy_alloc w6 o (some N))
  exact ⟨h.os.trans hg.os, h.tape.trans hg.tape, h.output.trans hg.output, Nat.le_trans hg.size h.size, fun b hb hne => (h.block b (Nat.lt_of_lt_of_le hb hg.size) (fun e => by have := hr b e.symm; omega)).trans (hg.block b hb hne)⟩
/-- What a drawing call leaves where it was. -/
theorem past {w w' : World} {N b : Nat} {o : Obj} (hg : w.grownBy w' (some N)) (h : w.heap[b]? = some o) (hN : N < b) : w'.heap[b]? = some o := (hg.block b (Array.getElem?_eq_some_iff.1 h).1 (ne_of hN)).trans h
theorem OwQ.past {w w' : World} {N lo : Nat} {v : Value} {ks : List Ky} {vs : List Tr} (h : OwQ w lo v ks vs) (hg : w.grownBy w' (some N)) (hN : N < lo) : OwQ w' lo v ks vs := h.above fun b hb hlt => hg.block b hlt (ne_of (by omega))

theorem specMaxD (a b : Int) (w : World) : Calls Tryz.prog 133 #[.int .i64 a, .int .i64 b] w fun e w' => e = .returned (.int .i64 (nums.mx a b)) ∧ w = w' := by
  by_cases h : a < b
  all_goals
    go_enter Tryz.func133, Tryz.ntmps133
    go_wp2
    go_ret
    exact ⟨nums.ret_int (by unfold nums.mx; split <;> omega), rfl⟩

set_option maxRecDepth 100000 in
set_option maxHeartbeats 4000000 in
theorem drawT (N : Nat) : ∀ (d : Nat) (z : Int), z = (d : Int) → d ≤ 3 → ∀ w, Cur w N → Calls Tryz.prog 59 #[.pointer (some ⟨N, 0, none⟩), .int .i64 z] w (DTr N (dB d) w) := by
  intro d
  induction d with
  | zero =>
    intro z hz hd w hC
    subst hz
    have hN0 := hC.lt
    have HCq : Hid (Cur (w.alloc (.cells #[.int .i64 0, .int .i64 0, .string ⟨#[]⟩, .int .i64 0, .slice none 0 0] IV)) N) := Lib.hid (hC.new _)
    have HGq := Lib.hid (World.grownBy_alloc w (.cells #[.int .i64 0, .int .i64 0, .string ⟨#[]⟩, .int .i64 0, .slice none 0 0] IV) (some N))
    have HERq := Lib.hid (heap_alloc_new w (.cells #[.int .i64 0, .int .i64 0, .string ⟨#[]⟩, .int .i64 0, .slice none 0 0] IV))
    clear hC
    go_enter Tryz.func59, Tryz.ntmps59
    go_wp2_with (fail)
    refine (scalar N _ HCq.out).mono ?_
    rintro e w2 ⟨k, n, s, rfl, hbd, hC2, hg2⟩
    have HC2 := Lib.hid hC2
    have HG2 := Lib.hid (only_trans HGq.out hg2)
    have HER2 := Lib.hid (past hg2 HERq.out hN0)
    have HBD := Lib.hid hbd
    obtain ⟨r2, f2⟩ := rowc HER2.out
    clear hC2 hg2 hbd
    go_wp2_with (fail)
    generalize hwF : ((((((w2).setCell ⟨w.heap.size, 0, none⟩ (.int .i64 k)).setCell ⟨w.heap.size, 1, none⟩ (.int .i64 n)).setCell ⟨w.heap.size, 2, none⟩ (.string s)).setCell ⟨w.heap.size, 3, none⟩ (.int .i64 0)).setCell ⟨w.heap.size, 4, none⟩ (.slice none 0 0)) = wF
    obtain ⟨rF, hD⟩ := DTr.of (B := dB 0) (k := k) (n := n) (x := 0) (s := s) (ks := []) (vs := []) (A := none) (L := 0) (c := 0) (by have := HBD.out; omega) rfl (by simp) hN0 HC2.out HG2.out HER2.out (OwQ.nil _ _) (by have := HBD.out; have := dB_ge 0; simp [tots]; omega) wF hwF.symm
    clear r2 f2 hwF
    refine bodyPost_ret (v := .agg #[.int .i64 k, .int .i64 n, .string s, .int .i64 0, .slice none 0 0]) ?_ rfl ?_
    · simp [results, Tryz.results59, go_sem, rF]
    · exact hD
  | succ d ih =>
    intro z hz hd w hC
    have hz0 : 0 < z := by omega
    have hz3 : z ≤ 3 := by omega
    have HZ : Hid (z = (d : Int) + 1) := Lib.hid (by omega)
    clear hz
    have hN0 := hC.lt
    have HC := Lib.hid hC
    clear hC
    obtain ⟨i0, hi, hzz⟩ := ie_info
    have HII := Lib.hid hi
    have HZZ := Lib.hid hzz
    clear hi hzz
    go_enter Tryz.func59, Tryz.ntmps59
    go_wp2_with (fail)
    refine (once N 3 (by omega) _ (HC.out.new _)).mono ?_
    rintro e w1 ⟨b, rfl, hC1, hg1⟩
    have HCq := Lib.hid hC1
    have HGq := Lib.hid (only_trans (World.grownBy_alloc w (.cells #[.int .i64 0, .int .i64 0, .string ⟨#[]⟩, .int .i64 0, .slice none 0 0] IV) (some N)) hg1)
    have HERq := Lib.hid (past hg1 (heap_alloc_new w (.cells #[.int .i64 0, .int .i64 0, .string ⟨#[]⟩, .int .i64 0, .slice none 0 0] IV)) hN0)
    clear hC1 hg1
    cases b with
    | false =>
      go_wp2_with (fail)
      refine (scalar N _ HCq.out).mono ?_
      rintro e w2 ⟨k, n, s, rfl, hbd, hC2, hg2⟩
      have HC2 := Lib.hid hC2
      have HG2 := Lib.hid (only_trans HGq.out hg2)
      have HER2 := Lib.hid (past hg2 HERq.out hN0)
      have HBD := Lib.hid hbd
      obtain ⟨r2, f2⟩ := rowc HER2.out
      clear hC2 hg2 hbd
      go_wp2_with (fail)
      generalize hwF : ((((((w2).setCell ⟨w.heap.size, 0, none⟩ (.int .i64 k)).setCell ⟨w.heap.size, 1, none⟩ (.int .i64 n)).setCell ⟨w.heap.size, 2, none⟩ (.string s)).setCell ⟨w.heap.size, 3, none⟩ (.int .i64 0)).setCell ⟨w.heap.size, 4, none⟩ (.slice none 0 0)) = wF
      obtain ⟨rF, hD⟩ := DTr.of (B := dB (d + 1)) (k := k) (n := n) (x := 0) (s := s) (ks := []) (vs := []) (A := none) (L := 0) (c := 0) (by have := HBD.out; omega) rfl (by simp) hN0 HC2.out HG2.out HER2.out (OwQ.nil _ _) (by have := HBD.out; have := dB_ge (d + 1); simp [tots]; omega) wF hwF.symm
      clear r2 f2 hwF
      refine bodyPost_ret (v := .agg #[.int .i64 k, .int .i64 n, .string s, .int .i64 0, .slice none 0 0]) ?_ rfl ?_
      · simp [results, Tryz.results59, go_sem, rF]
      · exact hD
    | true =>
      go_wp2_with (fail)
      refine (arrV _).mono ?_
      rintro e w2 ⟨rfl, hb2⟩
      have HC2 := Lib.hid (HCq.out.below hb2)
      have HG2 := Lib.hid (only_trans HGq.out (grown_of_below hb2 N))
      have HER2 := Lib.hid (carry hb2 HERq.out)
      have hsz2 : w.heap.size + 1 ≤ w2.heap.size := by have := (Array.getElem?_eq_some_iff.1 HER2.out).1; omega
      clear hb2
      go_wp2_with (fail)
      obtain ⟨M, HM⟩ : ∃ M, Hid (w2.heap.size = M) := ⟨_, Lib.hid rfl⟩
      have nv := heap_alloc_new w2 (.cells #[.int .i64 4, .int .i64 0, .string ⟨#[]⟩, .int .i64 0, .slice none 0 0] IV)
      have nb := b1 w2 (.cells #[.int .i64 4, .int .i64 0, .string ⟨#[]⟩, .int .i64 0, .slice none 0 0] IV)
      refine (below N 5 (by omega) _ (HC2.out.below nb)).mono ?_
      rintro e w3 ⟨j0, rfl, j00, j04, hC3, hg3⟩
      obtain ⟨j1, rfl⟩ := Int.eq_ofNat_of_zero_le j00
      have hNM : N < M := by rw [← HM.out]; omega
      have hWM : w.heap.size < M := by rw [← HM.out]; omega
      have HC3 := Lib.hid hC3
      have HG3 := Lib.hid (only_trans (only_trans HG2.out (grown_of_below nb N)) hg3)
      have HER3 := Lib.hid (past hg3 (carry nb HER2.out) hN0)
      have HEV3 := Lib.hid (past hg3 nv (by rw [HM.out]; exact hNM))
      rw [HM.out] at HEV3 ⊢
      clear nv nb hC3 hg3 j00
      go_wp2_with (fail)
      go_loopg [6] (j1 + 1) (fun gk kk wr => ∃ (j : Nat) (x : Int) (A1 : Option Addr) (L c1 : Nat) (ks : List Ky) (vs : List Tr), kk = .int .i64 j ∧ gk = j + 1 ∧ j ≤ 4 ∧ 0 ≤ x ∧ x ≤ 1000000001 ∧ Hid (wr.heap[w.heap.size]? = some (.cells #[.int .i64 0, .int .i64 0, .string ⟨#[]⟩, .int .i64 0, .slice none 0 0] IV (0, 0))) ∧
        Hid (wr.heap[M]? = some (.cells #[.int .i64 4, .int .i64 0, .string ⟨#[]⟩, .int .i64 x, .slice A1 L c1] IV (0, 0))) ∧ Hid (L = vs.length) ∧ Hid (OwQ wr (M + 1) (.slice A1 L c1) ks vs) ∧ Hid (vs.length + j ≤ 4 ∧ tots ks vs ≤ vs.length * (2 + dB d)) ∧ Hid (Cur wr N) ∧ Hid (w.grownBy wr (some N)))
      case atStart => exact ⟨j1, 0, none, 0, 0, [], [], rfl, rfl, by omega, by omega, by omega, HER3, HEV3, Lib.hid rfl, Lib.hid (OwQ.nil _ _), Lib.hid ⟨by simp; omega, by simp [tots]⟩, HC3, HG3⟩
      case round =>
        clear HC3 HG3 HER3 HEV3 HC2 HG2 HER2 HCq HGq HERq
        obtain ⟨j, x, A1, L, c1, ks, vs, rfl, hgj, hj4, x0, x1, HER, HEV, HL, HO, HTT, HCw, HG⟩ := hrel
        have HKL : Hid (ks.length = vs.length) := Lib.hid HO.out.len
        have hL4 : L ≤ 4 := by rw [HL.out]; have := HTT.out; omega
        by_cases hj : 0 < j
        · have hj' : (0 : Int) < (j : Int) := by omega
          go_wp2_with (fail)
          refine (key N _ HCw.out).mono ?_
          rintro e w4 ⟨⟨yb, yn, ys⟩, rfl, hyb, hC4, hg4⟩
          simp only at hyb
          obtain ⟨yn0, yn1, hys⟩ := hyb
          have HYS : Hid (ys.size ≤ 2) := Lib.hid hys
          have HG4 := Lib.hid (only_trans HG.out hg4)
          have HER4 := Lib.hid (past hg4 HER.out hN0)
          have HEV4 := Lib.hid (past hg4 HEV.out hNM)
          have HO4 := Lib.hid (OwQ.past HO.out hg4 (by omega))
          have HC4 := Lib.hid hC4
          unfold kyV
          simp only
          clear hC4 hg4 hys HER HEV HO HCw HG
          go_wp2_with (fail)
          have nv := heap_alloc_new w4 (.cells #[.bool yb, .int .i64 yn, .string ys] IK)
          have nb := b1 w4 (.cells #[.bool yb, .int .i64 yn, .string ys] IK)
          obtain ⟨KB, HK⟩ : ∃ KB, Hid (w4.heap.size = KB) := ⟨_, Lib.hid rfl⟩
          have hMK : M < KB := by rw [← HK.out]; have := (Array.getElem?_eq_some_iff.1 HEV4.out).1; omega
          have hNK : N < KB := by omega
          have hMne : M ≠ KB := by omega
          have HKF : Hid ((Value.slice A1 L c1).ownBlock ≠ some KB) := Lib.hid (fun e => by have := (HO4.out.block _ e).2; rw [HK.out] at this; omega)
          have HVQ : Hid (∀ w', (w4.alloc (.cells #[.bool yb, .int .i64 yn, .string ys] IK)).grownBy w' (some N) → w'.heap[M]? = some (.cells #[.int .i64 4, .int .i64 0, .string ⟨#[]⟩, .int .i64 x, .slice A1 L c1] IV (0, 0))) := Lib.hid (fun w' hg => past hg (carry nb HEV4.out) hNM)
          have HCQ := Lib.hid (HC4.out.below nb)
          have HALL : Hid (∀ w', (w4.alloc (.cells #[.bool yb, .int .i64 yn, .string ys] IK)).grownBy w' (some N) →
              Hid (w'.heap[w.heap.size]? = some (.cells #[.int .i64 0, .int .i64 0, .string ⟨#[]⟩, .int .i64 0, .slice none 0 0] IV (0, 0))) ∧ Hid (OwQ w' (M + 1) (.slice A1 L c1) ks vs) ∧ Hid (w'.heap[KB]? = some (.cells #[.bool yb, .int .i64 yn, .string ys] IK (0, 0))) ∧ Hid (w.grownBy w' (some N)) ∧ Hid (∀ b, N < b → b < w4.heap.size → w'.heap[b]? = w4.heap[b]?)) := Lib.hid (fun w' hg3 =>
            ⟨Lib.hid (past hg3 (carry nb HER4.out) hN0), Lib.hid (OwQ.past (HO4.out.below nb) hg3 (by omega)), Lib.hid (by have := past hg3 nv (by rw [HK.out]; exact hNK); rwa [HK.out] at this), Lib.hid (only_trans (only_trans HG4.out (grown_of_below nb N)) hg3), Lib.hid (fun b hb hlt => (hg3.block b (by simp; omega) (ne_of hb)).trans (nb.block b hlt))⟩)
          clear nv nb HC4 HER4 HEV4 HG4
          go_wp2_with (fail)
          rename_i K2 a2 K1 a1 K0 a0
          have HA2 := Lib.hid a2
          clear a2
          have TAIL : ∀ (zb : Bool) (zn : Int) (zs : ByteArray) (w9 : World) (u20 u21 u22 u23 u24 u25 u26 u27 u28 u29 u30 u31 u32 u33 u34 u35 u36 u37 u38 u39 u40 u41 u42 u43 u44 u45 u46 u47 u48 u49 u50 u51 u52 u53 u54 u55 u56 u57 u58 u59 u60 : Value), -1000000000 ≤ zn → zn ≤ 1000000000 → Hid (zs.size ≤ 2) → Hid (w9.heap[w.heap.size]? = some (.cells #[.int .i64 0, .int .i64 0, .string ⟨#[]⟩, .int .i64 0, .slice none 0 0] IV (0, 0))) → Hid (w9.heap[M]? = some (.cells #[.int .i64 4, .int .i64 0, .string ⟨#[]⟩, .int .i64 x, .slice A1 L c1] IV (0, 0))) →
              Hid (w9.heap[KB]? = some (.cells #[.bool zb, .int .i64 zn, .string zs] IK (0, 0))) → Hid (OwQ w9 (M + 1) (.slice A1 L c1) ks vs) → Hid (Cur w9 N) → Hid (w.grownBy w9 (some N)) →
              K2 { tmps := #[.pointer (some ⟨N, 0, none⟩), .int .i64 z, undef, undef, .pointer (some ⟨w.heap.size, 0, none⟩), .pointer (some ⟨M, 0, none⟩), .int .i64 j, .pointer (some ⟨KB, 0, none⟩), .int .i64 z, .bool (decide (z ≤ 0)), .bool (decide (z ≤ 0)), .pointer (some ⟨N, 0, none⟩), .bool true, .bool false, .bool (decide (z ≤ 0)), undef, undef, vV 4 0 ⟨#[]⟩ 0 none 0 0, .pointer (some ⟨N, 0, none⟩), .int .i64 j1, u20, u21, u22, u23, u24, u25, u26, u27, u28, u29, u30, u31, u32, u33, u34, u35, u36, u37, u38, u39, u40, u41, u42, u43, u44, u45, u46, u47, u48, u49, u50, u51, u52, u53, u54, u55, u56, u57, u58, u59, u60, undef], defers := [] } w9 := by
            intro zb zn zs w9 u20 u21 u22 u23 u24 u25 u26 u27 u28 u29 u30 u31 u32 u33 u34 u35 u36 u37 u38 u39 u40 u41 u42 u43 u44 u45 u46 u47 u48 u49 u50 u51 u52 u53 u54 u55 u56 u57 u58 u59 u60 zn0 zn1 HYS HER9 HEV9 HEK9 HO9 HC9 HG9
            clear HVQ HCQ HALL a1 a0 HO4 HK yn0 yn1
            obtain ⟨rv3, fv3⟩ := rowc HEV9.out
            obtain ⟨rk3, fk3⟩ := rowc HEK9.out
            refine HA2.out _ _ ?_
            have HIN : Hid (IsIn w9 (Nw (M + 1) w9) ks vs A1) := Lib.hid (by
              obtain ⟨A', c', e, hcap, hin⟩ := HO9.out.isin (by unfold maxLen; rw [← HL.out]; omega)
              injection e with e1 e2 e3
              subst e1
              exact hin)
            obtain ⟨P, HP⟩ : ∃ P, Hid (pos ks ⟨zb, zn, zs⟩ 0 = P) := ⟨_, Lib.hid rfl⟩
            have FI := find_s 0 ⟨#[]⟩ x ks vs A1 c1 ⟨zb, zn, zs⟩
            rw [HP.out, ← HL.out] at FI
            unfold vV kyV at FI
            simp only at FI
            have FI := Lib.hid FI
            go_wp2_with (fail)
            refine (FI.out _ _ HIN.out).mono ?_
            rintro e w5 ⟨rfl, hb5⟩
            have HER5 := Lib.hid (carry hb5 HER9.out)
            have HEV5 := Lib.hid (carry hb5 HEV9.out)
            have HEK5 := Lib.hid (carry hb5 HEK9.out)
            have HO5 := Lib.hid (HO9.out.below hb5)
            have HC5 := Lib.hid (HC9.out.below hb5)
            have HG5 := Lib.hid (only_trans HG9.out (grown_of_below hb5 N))
            clear hb5 rv3 fv3 rk3 fk3 HER9 HEV9 HEK9 HO9 HC9 HG9 HIN FI
            have HKO : Hid ((Value.slice A1 L c1).ownBlock ≠ some KB) := HKF
            have HNE : Hid (∀ p q : Nat, (⟨M, p, none⟩ : Addr) ≠ ⟨KB, q, none⟩) := Lib.hid (fun p q e => by injection e; omega)
            have HYI : Hid (I64 zn ∧ ByteArray.size zs ≤ maxLen) := Lib.hid ⟨by unfold I64; omega, by have := HYS.out; unfold maxLen; omega⟩
            have HSZ : Hid (M + 1 ≤ w5.heap.size) := Lib.hid (by have := (Array.getElem?_eq_some_iff.1 HEV5.out).1; omega)
            obtain ⟨rv, fv⟩ := rowc HEV5.out
            obtain ⟨rk, -⟩ := rowc HEK5.out
            by_cases hp : P < 0
            · obtain ⟨xs, hx⟩ := HO5.out
              have HX := Lib.hid hx
              have k0 := rk 0; have k1 := rk 1; have k2 := rk 2
              simp at k0 k1 k2
              have v4 : w5.cell? ⟨M, 4, none⟩ = some (.slice A1 L c1) := rv 4
              clear hx rv rk fv
              go_wp2_with (fail)
              refine wp_region_held_drew (S := (fun w' => w'.cell? ⟨KB, 0, none⟩ = some (.bool zb) ∧ w'.cell? ⟨KB, 1, none⟩ = some (.int .i64 zn) ∧ w'.cell? ⟨KB, 2, none⟩ = some (.string zs))) (by kernel_rfl) ?_ (fun hHeld => ?_)
              · (try dsimp only) <;> go_keep
              refine wpAnyH_take (i := 0) (v := ?_) rfl (by kernel_rfl) (by kernel_rfl) (by kernel_rfl) (fun _ _ _ h => h) (Or.inl ⟨by rfl, ?_⟩) (by assumption) ?_
              rotate_left
              · (intro w hSw; (try dsimp only at hSw); go_split_ands; go_simp; try (with_reducible rfl))
              try simp only [Act.put, List.setIfInBounds_toArray]
              refine wpAnyH_take (i := 2) (v := ?_) rfl (by kernel_rfl) (by kernel_rfl) (by kernel_rfl) (fun _ _ _ h => h) (Or.inl ⟨by rfl, ?_⟩) (by assumption) ?_
              rotate_left
              · (intro w hSw; (try dsimp only at hSw); go_split_ands; go_simp; try (with_reducible rfl))
              try simp only [Act.put]
              refine wpAnyH_take (i := 3) (v := ?_) rfl (by kernel_rfl) (by kernel_rfl) (by kernel_rfl) (fun _ _ _ h => h) (Or.inl ⟨by rfl, ?_⟩) (by assumption) ?_
              rotate_left
              · (intro w hSw; (try dsimp only at hSw); go_split_ands; go_simp; try (with_reducible rfl))
              try simp only [Act.put]
              refine wpAnyH_take (i := 4) (v := ?_) rfl (by kernel_rfl) (by kernel_rfl) (by kernel_rfl) (fun _ _ _ h => h) (Or.inl ⟨by rfl, ?_⟩) (by assumption) ?_
              rotate_left
              · (intro w hSw; (try dsimp only at hSw); go_split_ands; go_simp; try (with_reducible rfl))
              try simp only [Act.put]
              refine wpAnyH_take (i := 5) (v := ?_) rfl (by kernel_rfl) (by kernel_rfl) (by kernel_rfl) (fun _ _ _ h => h) (Or.inl ⟨by rfl, ?_⟩) (by assumption) ?_
              rotate_left
              · (intro w hSw; (try dsimp only at hSw); go_split_ands; go_simp; try (with_reducible rfl))
              try simp only [Act.put]
              refine wpAnyH_ready (rs := [1, 6]) (by kernel_rfl) (by simp) ?_
              refine AllReadyH.cons rfl (fun K hK => ?_) ?_
              · go_simp
                refine hK.out _ _ ?_ (fun hHeld => ?_)
                · (first | go_keep | (go_split_ands; refine ⟨?_, ?_, ?_⟩ <;> (rw [World.cell?_setCell_other _ _ _ _ (HNE.out _ _)]; assumption)))
                clear hK K
                try simp only [Act.put, List.setIfInBounds_toArray, List.set_cons_zero, List.set_cons_succ]
                refine wpAnyH_ready (rs := [6]) (by kernel_rfl) (by simp) ?_
                refine AllReadyH.cons rfl (fun K hK => ?_) AllReadyH.nil
                go_simp
                go_at_call 59
                rw [show IntKind.i64.wrap (z - 1) = z - 1 by rw [IntKind.wrap_i64]; omega]
                refine (ih (z - 1) (by have := HZ.out; omega) (by omega) _ (HC5.out.below (Below.refl w5.heap.size w5).drew)).mono ?_
                rintro e w6 ⟨k', n', s', x', ks', vs', A2, L2, c2, rfl, hbd, hL2, h44, hO6, hB6, hC6, hg6⟩
                have hg6' : w5.grownBy w6 (some N) := only_trans (grown_of_below (Below.refl w5.heap.size w5).drew N) hg6
                have HC6 := Lib.hid hC6
                have HG6 := Lib.hid (only_trans HG5.out hg6')
                have HER6 := Lib.hid (past hg6' HER5.out hN0)
                have HEV6 := Lib.hid (past hg6' HEV5.out hNM)
                have HEK6 := Lib.hid (past hg6' HEK5.out hNK)
                have HBD := Lib.hid hbd
                have HB6 := Lib.hid hB6
                have hX6 : OwP w6 (M + 1) (.slice A1 L c1) xs ks vs := OwP.above HX.out fun b hb hlt => hg6'.block b hlt (ne_of (by omega))
                have HX6 := Lib.hid hX6
                obtain ⟨A2', c2', e2, hcap2, hin2⟩ := hO6.isin (by unfold maxLen; omega)
                obtain ⟨rfl, -, rfl⟩ : A2 = A2' ∧ L2 = vs'.length ∧ c2 = c2' := by simpa using e2
                have hT6 : TIn w6 (Nw w5.heap.size w6) (.mk k' n' s' x' ks' vs') (vV k' n' s' x' A2 vs'.length c2) := TIn.of c2 ⟨by unfold I64; omega, by unfold I64; omega, by unfold I64; omega, by unfold maxLen; omega⟩ hin2 hcap2
                have HT6 := Lib.hid hT6
                have HL2 : Hid (L2 = vs'.length) := Lib.hid hL2
                have hsz6 : w5.heap.size ≤ w6.heap.size := hg6'.size
                obtain ⟨rk6, -⟩ := rowc HEK6.out
                have q0 := rk6 0; have q1 := rk6 1; have q2 := rk6 2
                simp at q0 q1 q2
                have s24 : w6.cell? ⟨M, 4, none⟩ = some (.slice A1 L c1) := (rowc HEV6.out).1 4
                have s24a : ∀ o, (w6.alloc o).cell? ⟨M, 4, none⟩ = some (.slice A1 L c1) := fun o => (rowc (keepAlloc HEV6.out)).1 4
                have HOW : Hid (∀ o, (w6.alloc o).ownsRow 0 IE 8 (.slice A1 L c1) L xs) := Lib.hid fun o => by
                  have := (OwP.below HX6.out (b1 w6 o)).1
                  rwa [← HL.out] at this
                clear hC6 hg6 hg6' hbd hO6 hB6 hX6 e2 hcap2 hin2 hT6 rk6 hL2
                try go_wp2_with (fail)
                refine hK.out _ _ ?_ (fun hHeld => ?_)
                · (first | go_keep | (go_split_ands; refine ⟨?_, ?_, ?_⟩ <;> (rw [World.cell?_setCell_other _ _ _ _ (HNE.out _ _)]; assumption)))
                clear hK K
                try simp only [Act.put, List.setIfInBounds_toArray, List.set_cons_zero, List.set_cons_succ]
                refine wpAnyH_take (i := 7) (v := ?_) rfl (by kernel_rfl) (by kernel_rfl) (by kernel_rfl) (fun _ _ _ h => h) (Or.inl ⟨by rfl, ?_⟩) (by assumption) ?_
                rotate_left
                · (intro w hSw; (try dsimp only at hSw); go_split_ands; go_simp; try (with_reducible rfl))
                try simp only [Act.put, List.setIfInBounds_toArray]
                refine wpAnyH_ready (rs := [8]) (by kernel_rfl) (by simp) ?_
                refine AllReadyH.cons rfl (fun K hK => ?_) AllReadyH.nil
                go_simp
                refine hK.out _ _ ?_ (fun hHeld => ?_)
                · (first | go_keep | (go_split_ands; refine ⟨?_, ?_, ?_⟩ <;> (rw [World.cell?_setCell_other _ _ _ _ (HNE.out _ _)]; assumption)))
                clear hK K
                try simp only [Act.put, List.setIfInBounds_toArray, List.set_cons_zero, List.set_cons_succ]
                refine wpAnyH_ready (rs := [9]) (by kernel_rfl) (by simp) ?_
                refine AllReadyH.cons rfl (fun K hK => ?_) AllReadyH.nil
                refine step_append_lies _ (by rfl) _ _ 30 (by rfl) 0 IE i0 _ 8 96 Tryz.underlying30 HII.out HZZ.out.1 HZZ.out.2.1 HZZ.out.2.2 rfl (by decide) (.slice A1 L c1) L xs (by rfl) (HOW.out _) ⟨w6.heap.size, 0, none⟩ 1 1 [.bool zb, .int .i64 zn, .string zs, .int .i64 k', .int .i64 n', .string s', .int .i64 x', .slice A2 L2 c2] (by rfl) (by rfl) (eight_new w6 _ _ _ _ _ _ _ _ _) (eight_one _ _ _ _ _ _ _ _ _ _) (by omega) (by unfold maxLen; omega) (by omega) (Nat.zero_le _) (w6.heap.size + 1) (by simp) ?_
                intro g3 c3 w7 hown hgrow hat hlt3
                have hown2 : w7.ownsRow 0 IE 8 (.slice (some ⟨g3, 0, none⟩) (L + 1) c3) (vs.length + 1) (xs ++ [.bool zb, .int .i64 zn, .string zs, .int .i64 k', .int .i64 n', .string s', .int .i64 x', .slice A2 vs'.length c2]) := by
                  rw [← HL.out, ← HL2.out]
                  exact hown
                have hor := OwP.more (lq := w5.heap.size) (OwP.below HX6.out (b1 w6 _)) HSZ.out (fun b e => (HO5.out.block b e).2) (y := ⟨zb, zn, zs⟩) (k := k') (n := n') (s := s') (x := x') (ks' := ks') (vs' := vs') (A := A2) (c := c2) (v' := .slice (some ⟨g3, 0, none⟩) (L + 1) c3) HYI.out (HT6.out.nwb (b1 w6 _)) hown2 hgrow (hat.imp (fun h => h.symm) (fun h => by rw [h]; simp [Value.ownBlock])) (by have := HSZ.out; simp; omega)
                have HOR : Hid (OwQ w7 (M + 1) _ _ _) := Lib.hid ⟨_, hor⟩
                have blk : ∀ (b : Nat) (o : Obj), w6.heap[b]? = some o → b < M + 1 → w7.heap[b]? = some o := fun b o h hb => (hgrow.block b (by have := (Array.getElem?_eq_some_iff.1 h).1; simp; omega) (fun e => by have := (HO5.out.block _ e.symm).1; omega)).trans (keepAlloc h)
                have HER7 := Lib.hid (blk _ _ HER6.out (by omega))
                have HEV7 := Lib.hid (blk _ _ HEV6.out (by omega))
                have HEK7 : Hid (w7.heap[KB]? = some (.cells #[.bool zb, .int .i64 zn, .string zs] IK (0, 0))) := Lib.hid ((hgrow.block KB (by have := (Array.getElem?_eq_some_iff.1 HEK6.out).1; simp; omega) (fun e => HKO.out e.symm)).trans (keepAlloc HEK6.out))
                have HC7 : Hid (Cur w7 N) := Lib.hid (Cur.upto (HC6.out.below (b1 w6 _)) fun k hk => hgrow.block k (by have := HC6.out.lt; simp; omega) (fun e => by have := (HO5.out.block _ e.symm).1; omega))
                have HG7 : Hid (w.grownBy w7 (some N)) := Lib.hid (grown_app HG6.out hgrow (fun b e => by have := (HO5.out.block _ e).1; omega))
                obtain ⟨rk7, -⟩ := rowc HEK7.out
                have t0 := rk7 0; have t1 := rk7 1; have t2 := rk7 2
                simp at t0 t1 t2
                have t23 : w7.cell? ⟨M, 3, none⟩ = some (.int .i64 x) := (rowc HEV7.out).1 3
                have t24 : w7.cell? ⟨M, 4, none⟩ = some (.slice A1 L c1) := (rowc HEV7.out).1 4
                have ff2 := (rowc HEV7.out).2
                clear hown hown2 hgrow hat hor blk rk7 q0 q1 q2 s24 s24a
                refine hK.out _ _ ?_ (fun hHeld => ?_)
                · (first | go_keep | (go_split_ands; refine ⟨?_, ?_, ?_⟩ <;> (rw [World.cell?_setCell_other _ _ _ _ (HNE.out _ _)]; assumption)))
                clear hK K
                try simp only [Act.put, List.setIfInBounds_toArray]
                refine wpAnyH_take (i := 10) (v := ?_) rfl (by kernel_rfl) (by kernel_rfl) (by kernel_rfl) (fun _ _ _ h => h) (Or.inl ⟨by rfl, ?_⟩) (by assumption) ?_
                rotate_left
                · (intro w hSw; (try dsimp only at hSw); go_split_ands; go_simp; try (with_reducible rfl))
                try simp only [Act.put]
                refine wpAnyH_ready (rs := [11]) (by kernel_rfl) (by simp) ?_
                refine AllReadyH.cons rfl (fun K hK => ?_) AllReadyH.nil
                go_simp
                refine hK.out _ _ ?_ (fun hHeld => ?_)
                · (first | go_keep | (go_split_ands; refine ⟨?_, ?_, ?_⟩ <;> (rw [World.cell?_setCell_other _ _ _ _ (HNE.out _ _)]; assumption)))
                clear hK K
                try simp only [Act.put, List.setIfInBounds_toArray, List.set_cons_zero, List.set_cons_succ]
                refine wpAnyH_done (by kernel_rfl) ?_ _
                cases zb with
                | true =>
                  go_wp2_with (fail)
                  go_roundg j
                  case rel => exact ⟨j - 1, x, some ⟨g3, 0, none⟩, L + 1, c3, ks ++ [⟨true, zn, zs⟩], vs ++ [.mk k' n' s' x' ks' vs'], by go_num, by omega, by omega, x0, x1, Lib.hid ((set_other (by omega)).trans HER7.out), Lib.hid (by have := set_heap HEV7.out 4 (.slice (some ⟨g3, 0, none⟩) (L + 1) c3); simpa using this), Lib.hid (by rw [HL.out]; simp), Lib.hid (HOR.out.above fun b hb _ => set_other (by omega)), Lib.hid (by have := HB6.out; have h1 := HTT.out; have h2 := HYS.out; rw [tots_snoc _ _ _ _ HKL.out]; simp only [List.length_append, List.length_cons, List.length_nil, tot_mk]; show (vs.length + 1) + (j - 1) ≤ 4 ∧ tots ks vs + (zs.size + _) ≤ (vs.length + 1) * (2 + dB d); have h3 : (vs.length + 1) * (2 + dB d) = vs.length * (2 + dB d) + (2 + dB d) := Nat.succ_mul _ _; omega), Lib.hid (Cur.upto HC7.out fun k hk => set_other (by omega)), Lib.hid (grown_set (by omega) HG7.out)⟩
                  case measure => omega
                | false =>
                  go_wp2_with (fail)
                  refine (specMaxD _ _ _).mono ?_
                  rintro e w8 ⟨rfl, rfl⟩
                  obtain ⟨q, HQ, hq0, hq1⟩ : ∃ q : Int, Hid (nums.mx x (zn + 1) = q) ∧ 0 ≤ q ∧ q ≤ 1000000001 := ⟨_, Lib.hid rfl, by unfold nums.mx; split <;> omega, by unfold nums.mx; split <;> omega⟩
                  rw [HQ.out]
                  go_wp2_with (fail)
                  go_roundg j
                  case rel => exact ⟨j - 1, q, some ⟨g3, 0, none⟩, L + 1, c3, ks ++ [⟨false, zn, zs⟩], vs ++ [.mk k' n' s' x' ks' vs'], by go_num, by omega, by omega, hq0, hq1, Lib.hid ((set_other (by omega)).trans ((set_other (by omega)).trans HER7.out)), Lib.hid (by have := set_heap (set_heap HEV7.out 4 (.slice (some ⟨g3, 0, none⟩) (L + 1) c3)) 3 (.int .i64 q); simpa using this), Lib.hid (by rw [HL.out]; simp), Lib.hid (HOR.out.above fun b hb _ => (set_other (by omega)).trans (set_other (by omega))), Lib.hid (by have := HB6.out; have h1 := HTT.out; have h2 := HYS.out; rw [tots_snoc _ _ _ _ HKL.out]; simp only [List.length_append, List.length_cons, List.length_nil, tot_mk]; show (vs.length + 1) + (j - 1) ≤ 4 ∧ tots ks vs + (zs.size + _) ≤ (vs.length + 1) * (2 + dB d); have h3 : (vs.length + 1) * (2 + dB d) = vs.length * (2 + dB d) + (2 + dB d) := Nat.succ_mul _ _; omega), Lib.hid (Cur.upto HC7.out fun k hk => (set_other (by omega)).trans (set_other (by omega))), Lib.hid (grown_set (by omega) (grown_set (by omega) HG7.out))⟩
                  case measure => omega
              refine AllReadyH.cons rfl (fun K hK => ?_) AllReadyH.nil
              go_simp
              go_at_call 59
              rw [show IntKind.i64.wrap (z - 1) = z - 1 by rw [IntKind.wrap_i64]; omega]
              refine (ih (z - 1) (by have := HZ.out; omega) (by omega) _ (HC5.out.below (Below.refl w5.heap.size w5).drew)).mono ?_
              rintro e w6 ⟨k', n', s', x', ks', vs', A2, L2, c2, rfl, hbd, hL2, h44, hO6, hB6, hC6, hg6⟩
              have hg6' : w5.grownBy w6 (some N) := only_trans (grown_of_below (Below.refl w5.heap.size w5).drew N) hg6
              have HC6 := Lib.hid hC6
              have HG6 := Lib.hid (only_trans HG5.out hg6')
              have HER6 := Lib.hid (past hg6' HER5.out hN0)
              have HEV6 := Lib.hid (past hg6' HEV5.out hNM)
              have HEK6 := Lib.hid (past hg6' HEK5.out hNK)
              have HBD := Lib.hid hbd
              have HB6 := Lib.hid hB6
              have hX6 : OwP w6 (M + 1) (.slice A1 L c1) xs ks vs := OwP.above HX.out fun b hb hlt => hg6'.block b hlt (ne_of (by omega))
              have HX6 := Lib.hid hX6
              obtain ⟨A2', c2', e2, hcap2, hin2⟩ := hO6.isin (by unfold maxLen; omega)
              obtain ⟨rfl, -, rfl⟩ : A2 = A2' ∧ L2 = vs'.length ∧ c2 = c2' := by simpa using e2
              have hT6 : TIn w6 (Nw w5.heap.size w6) (.mk k' n' s' x' ks' vs') (vV k' n' s' x' A2 vs'.length c2) := TIn.of c2 ⟨by unfold I64; omega, by unfold I64; omega, by unfold I64; omega, by unfold maxLen; omega⟩ hin2 hcap2
              have HT6 := Lib.hid hT6
              have HL2 : Hid (L2 = vs'.length) := Lib.hid hL2
              have hsz6 : w5.heap.size ≤ w6.heap.size := hg6'.size
              obtain ⟨rk6, -⟩ := rowc HEK6.out
              have q0 := rk6 0; have q1 := rk6 1; have q2 := rk6 2
              simp at q0 q1 q2
              have s24 : w6.cell? ⟨M, 4, none⟩ = some (.slice A1 L c1) := (rowc HEV6.out).1 4
              have s24a : ∀ o, (w6.alloc o).cell? ⟨M, 4, none⟩ = some (.slice A1 L c1) := fun o => (rowc (keepAlloc HEV6.out)).1 4
              have HOW : Hid (∀ o, (w6.alloc o).ownsRow 0 IE 8 (.slice A1 L c1) L xs) := Lib.hid fun o => by
                have := (OwP.below HX6.out (b1 w6 o)).1
                rwa [← HL.out] at this
              clear hC6 hg6 hg6' hbd hO6 hB6 hX6 e2 hcap2 hin2 hT6 rk6 hL2
              try go_wp2_with (fail)
              refine hK.out _ _ ?_ (fun hHeld => ?_)
              · (first | go_keep | (go_split_ands; refine ⟨?_, ?_, ?_⟩ <;> (rw [World.cell?_setCell_other _ _ _ _ (HNE.out _ _)]; assumption)))
              clear hK K
              try simp only [Act.put, List.setIfInBounds_toArray, List.set_cons_zero, List.set_cons_succ]
              refine wpAnyH_take (i := 7) (v := ?_) rfl (by kernel_rfl) (by kernel_rfl) (by kernel_rfl) (fun _ _ _ h => h) (Or.inl ⟨by rfl, ?_⟩) (by assumption) ?_
              rotate_left
              · (intro w hSw; (try dsimp only at hSw); go_split_ands; go_simp; try (with_reducible rfl))
              try simp only [Act.put, List.setIfInBounds_toArray]
              refine wpAnyH_ready (rs := [1, 8]) (by kernel_rfl) (by simp) ?_
              refine AllReadyH.cons rfl (fun K hK => ?_) ?_
              · go_simp
                refine hK.out _ _ ?_ (fun hHeld => ?_)
                · (first | go_keep | (go_split_ands; refine ⟨?_, ?_, ?_⟩ <;> (rw [World.cell?_setCell_other _ _ _ _ (HNE.out _ _)]; assumption)))
                clear hK K
                try simp only [Act.put, List.setIfInBounds_toArray, List.set_cons_zero, List.set_cons_succ]
                refine wpAnyH_ready (rs := [8]) (by kernel_rfl) (by simp) ?_
                refine AllReadyH.cons rfl (fun K hK => ?_) AllReadyH.nil
                go_simp
                refine hK.out _ _ ?_ (fun hHeld => ?_)
                · (first | go_keep | (go_split_ands; refine ⟨?_, ?_, ?_⟩ <;> (rw [World.cell?_setCell_other _ _ _ _ (HNE.out _ _)]; assumption)))
                clear hK K
                try simp only [Act.put, List.setIfInBounds_toArray, List.set_cons_zero, List.set_cons_succ]
                refine wpAnyH_ready (rs := [9]) (by kernel_rfl) (by simp) ?_
                refine AllReadyH.cons rfl (fun K hK => ?_) AllReadyH.nil
                refine step_append_lies _ (by rfl) _ _ 30 (by rfl) 0 IE i0 _ 8 96 Tryz.underlying30 HII.out HZZ.out.1 HZZ.out.2.1 HZZ.out.2.2 rfl (by decide) (.slice A1 L c1) L xs (by rfl) (HOW.out _) ⟨w6.heap.size, 0, none⟩ 1 1 [.bool zb, .int .i64 zn, .string zs, .int .i64 k', .int .i64 n', .string s', .int .i64 x', .slice A2 L2 c2] (by rfl) (by rfl) (eight_new w6 _ _ _ _ _ _ _ _ _) (eight_one _ _ _ _ _ _ _ _ _ _) (by omega) (by unfold maxLen; omega) (by omega) (Nat.zero_le _) (w6.heap.size + 1) (by simp) ?_
                intro g3 c3 w7 hown hgrow hat hlt3
                have hown2 : w7.ownsRow 0 IE 8 (.slice (some ⟨g3, 0, none⟩) (L + 1) c3) (vs.length + 1) (xs ++ [.bool zb, .int .i64 zn, .string zs, .int .i64 k', .int .i64 n', .string s', .int .i64 x', .slice A2 vs'.length c2]) := by
                  rw [← HL.out, ← HL2.out]
                  exact hown
                have hor := OwP.more (lq := w5.heap.size) (OwP.below HX6.out (b1 w6 _)) HSZ.out (fun b e => (HO5.out.block b e).2) (y := ⟨zb, zn, zs⟩) (k := k') (n := n') (s := s') (x := x') (ks' := ks') (vs' := vs') (A := A2) (c := c2) (v' := .slice (some ⟨g3, 0, none⟩) (L + 1) c3) HYI.out (HT6.out.nwb (b1 w6 _)) hown2 hgrow (hat.imp (fun h => h.symm) (fun h => by rw [h]; simp [Value.ownBlock])) (by have := HSZ.out; simp; omega)
                have HOR : Hid (OwQ w7 (M + 1) _ _ _) := Lib.hid ⟨_, hor⟩
                have blk : ∀ (b : Nat) (o : Obj), w6.heap[b]? = some o → b < M + 1 → w7.heap[b]? = some o := fun b o h hb => (hgrow.block b (by have := (Array.getElem?_eq_some_iff.1 h).1; simp; omega) (fun e => by have := (HO5.out.block _ e.symm).1; omega)).trans (keepAlloc h)
                have HER7 := Lib.hid (blk _ _ HER6.out (by omega))
                have HEV7 := Lib.hid (blk _ _ HEV6.out (by omega))
                have HEK7 : Hid (w7.heap[KB]? = some (.cells #[.bool zb, .int .i64 zn, .string zs] IK (0, 0))) := Lib.hid ((hgrow.block KB (by have := (Array.getElem?_eq_some_iff.1 HEK6.out).1; simp; omega) (fun e => HKO.out e.symm)).trans (keepAlloc HEK6.out))
                have HC7 : Hid (Cur w7 N) := Lib.hid (Cur.upto (HC6.out.below (b1 w6 _)) fun k hk => hgrow.block k (by have := HC6.out.lt; simp; omega) (fun e => by have := (HO5.out.block _ e.symm).1; omega))
                have HG7 : Hid (w.grownBy w7 (some N)) := Lib.hid (grown_app HG6.out hgrow (fun b e => by have := (HO5.out.block _ e).1; omega))
                obtain ⟨rk7, -⟩ := rowc HEK7.out
                have t0 := rk7 0; have t1 := rk7 1; have t2 := rk7 2
                simp at t0 t1 t2
                have t23 : w7.cell? ⟨M, 3, none⟩ = some (.int .i64 x) := (rowc HEV7.out).1 3
                have t24 : w7.cell? ⟨M, 4, none⟩ = some (.slice A1 L c1) := (rowc HEV7.out).1 4
                have ff2 := (rowc HEV7.out).2
                clear hown hown2 hgrow hat hor blk rk7 q0 q1 q2 s24 s24a
                refine hK.out _ _ ?_ (fun hHeld => ?_)
                · (first | go_keep | (go_split_ands; refine ⟨?_, ?_, ?_⟩ <;> (rw [World.cell?_setCell_other _ _ _ _ (HNE.out _ _)]; assumption)))
                clear hK K
                try simp only [Act.put, List.setIfInBounds_toArray]
                refine wpAnyH_take (i := 10) (v := ?_) rfl (by kernel_rfl) (by kernel_rfl) (by kernel_rfl) (fun _ _ _ h => h) (Or.inl ⟨by rfl, ?_⟩) (by assumption) ?_
                rotate_left
                · (intro w hSw; (try dsimp only at hSw); go_split_ands; go_simp; try (with_reducible rfl))
                try simp only [Act.put]
                refine wpAnyH_ready (rs := [11]) (by kernel_rfl) (by simp) ?_
                refine AllReadyH.cons rfl (fun K hK => ?_) AllReadyH.nil
                go_simp
                refine hK.out _ _ ?_ (fun hHeld => ?_)
                · (first | go_keep | (go_split_ands; refine ⟨?_, ?_, ?_⟩ <;> (rw [World.cell?_setCell_other _ _ _ _ (HNE.out _ _)]; assumption)))
                clear hK K
                try simp only [Act.put, List.setIfInBounds_toArray, List.set_cons_zero, List.set_cons_succ]
                refine wpAnyH_done (by kernel_rfl) ?_ _
                cases zb with
                | true =>
                  go_wp2_with (fail)
                  go_roundg j
                  case rel => exact ⟨j - 1, x, some ⟨g3, 0, none⟩, L + 1, c3, ks ++ [⟨true, zn, zs⟩], vs ++ [.mk k' n' s' x' ks' vs'], by go_num, by omega, by omega, x0, x1, Lib.hid ((set_other (by omega)).trans HER7.out), Lib.hid (by have := set_heap HEV7.out 4 (.slice (some ⟨g3, 0, none⟩) (L + 1) c3); simpa using this), Lib.hid (by rw [HL.out]; simp), Lib.hid (HOR.out.above fun b hb _ => set_other (by omega)), Lib.hid (by have := HB6.out; have h1 := HTT.out; have h2 := HYS.out; rw [tots_snoc _ _ _ _ HKL.out]; simp only [List.length_append, List.length_cons, List.length_nil, tot_mk]; show (vs.length + 1) + (j - 1) ≤ 4 ∧ tots ks vs + (zs.size + _) ≤ (vs.length + 1) * (2 + dB d); have h3 : (vs.length + 1) * (2 + dB d) = vs.length * (2 + dB d) + (2 + dB d) := Nat.succ_mul _ _; omega), Lib.hid (Cur.upto HC7.out fun k hk => set_other (by omega)), Lib.hid (grown_set (by omega) HG7.out)⟩
                  case measure => omega
                | false =>
                  go_wp2_with (fail)
                  refine (specMaxD _ _ _).mono ?_
                  rintro e w8 ⟨rfl, rfl⟩
                  obtain ⟨q, HQ, hq0, hq1⟩ : ∃ q : Int, Hid (nums.mx x (zn + 1) = q) ∧ 0 ≤ q ∧ q ≤ 1000000001 := ⟨_, Lib.hid rfl, by unfold nums.mx; split <;> omega, by unfold nums.mx; split <;> omega⟩
                  rw [HQ.out]
                  go_wp2_with (fail)
                  go_roundg j
                  case rel => exact ⟨j - 1, q, some ⟨g3, 0, none⟩, L + 1, c3, ks ++ [⟨false, zn, zs⟩], vs ++ [.mk k' n' s' x' ks' vs'], by go_num, by omega, by omega, hq0, hq1, Lib.hid ((set_other (by omega)).trans ((set_other (by omega)).trans HER7.out)), Lib.hid (by have := set_heap (set_heap HEV7.out 4 (.slice (some ⟨g3, 0, none⟩) (L + 1) c3)) 3 (.int .i64 q); simpa using this), Lib.hid (by rw [HL.out]; simp), Lib.hid (HOR.out.above fun b hb _ => (set_other (by omega)).trans (set_other (by omega))), Lib.hid (by have := HB6.out; have h1 := HTT.out; have h2 := HYS.out; rw [tots_snoc _ _ _ _ HKL.out]; simp only [List.length_append, List.length_cons, List.length_nil, tot_mk]; show (vs.length + 1) + (j - 1) ≤ 4 ∧ tots ks vs + (zs.size + _) ≤ (vs.length + 1) * (2 + dB d); have h3 : (vs.length + 1) * (2 + dB d) = vs.length * (2 + dB d) + (2 + dB d) := Nat.succ_mul _ _; omega), Lib.hid (Cur.upto HC7.out fun k hk => (set_other (by omega)).trans (set_other (by omega))), Lib.hid (grown_set (by omega) (grown_set (by omega) HG7.out))⟩
                  case measure => omega
              refine AllReadyH.cons rfl (fun K hK => ?_) AllReadyH.nil
              go_simp
              refine hK.out _ _ ?_ (fun hHeld => ?_)
              · (first | go_keep | (go_split_ands; refine ⟨?_, ?_, ?_⟩ <;> (rw [World.cell?_setCell_other _ _ _ _ (HNE.out _ _)]; assumption)))
              clear hK K
              try simp only [Act.put, List.setIfInBounds_toArray, List.set_cons_zero, List.set_cons_succ]
              refine wpAnyH_ready (rs := [1]) (by kernel_rfl) (by simp) ?_
              refine AllReadyH.cons rfl (fun K hK => ?_) AllReadyH.nil
              go_simp
              refine hK.out _ _ ?_ (fun hHeld => ?_)
              · (first | go_keep | (go_split_ands; refine ⟨?_, ?_, ?_⟩ <;> (rw [World.cell?_setCell_other _ _ _ _ (HNE.out _ _)]; assumption)))
              clear hK K
              try simp only [Act.put, List.setIfInBounds_toArray, List.set_cons_zero, List.set_cons_succ]
              refine wpAnyH_ready (rs := [9]) (by kernel_rfl) (by simp) ?_
              refine AllReadyH.cons rfl (fun K hK => ?_) AllReadyH.nil
              refine step_append_lies _ (by rfl) _ _ 30 (by rfl) 0 IE i0 _ 8 96 Tryz.underlying30 HII.out HZZ.out.1 HZZ.out.2.1 HZZ.out.2.2 rfl (by decide) (.slice A1 L c1) L xs (by rfl) (HOW.out _) ⟨w6.heap.size, 0, none⟩ 1 1 [.bool zb, .int .i64 zn, .string zs, .int .i64 k', .int .i64 n', .string s', .int .i64 x', .slice A2 L2 c2] (by rfl) (by rfl) (eight_new w6 _ _ _ _ _ _ _ _ _) (eight_one _ _ _ _ _ _ _ _ _ _) (by omega) (by unfold maxLen; omega) (by omega) (Nat.zero_le _) (w6.heap.size + 1) (by simp) ?_
              intro g3 c3 w7 hown hgrow hat hlt3
              have hown2 : w7.ownsRow 0 IE 8 (.slice (some ⟨g3, 0, none⟩) (L + 1) c3) (vs.length + 1) (xs ++ [.bool zb, .int .i64 zn, .string zs, .int .i64 k', .int .i64 n', .string s', .int .i64 x', .slice A2 vs'.length c2]) := by
                rw [← HL.out, ← HL2.out]
                exact hown
              have hor := OwP.more (lq := w5.heap.size) (OwP.below HX6.out (b1 w6 _)) HSZ.out (fun b e => (HO5.out.block b e).2) (y := ⟨zb, zn, zs⟩) (k := k') (n := n') (s := s') (x := x') (ks' := ks') (vs' := vs') (A := A2) (c := c2) (v' := .slice (some ⟨g3, 0, none⟩) (L + 1) c3) HYI.out (HT6.out.nwb (b1 w6 _)) hown2 hgrow (hat.imp (fun h => h.symm) (fun h => by rw [h]; simp [Value.ownBlock])) (by have := HSZ.out; simp; omega)
              have HOR : Hid (OwQ w7 (M + 1) _ _ _) := Lib.hid ⟨_, hor⟩
              have blk : ∀ (b : Nat) (o : Obj), w6.heap[b]? = some o → b < M + 1 → w7.heap[b]? = some o := fun b o h hb => (hgrow.block b (by have := (Array.getElem?_eq_some_iff.1 h).1; simp; omega) (fun e => by have := (HO5.out.block _ e.symm).1; omega)).trans (keepAlloc h)
              have HER7 := Lib.hid (blk _ _ HER6.out (by omega))
              have HEV7 := Lib.hid (blk _ _ HEV6.out (by omega))
              have HEK7 : Hid (w7.heap[KB]? = some (.cells #[.bool zb, .int .i64 zn, .string zs] IK (0, 0))) := Lib.hid ((hgrow.block KB (by have := (Array.getElem?_eq_some_iff.1 HEK6.out).1; simp; omega) (fun e => HKO.out e.symm)).trans (keepAlloc HEK6.out))
              have HC7 : Hid (Cur w7 N) := Lib.hid (Cur.upto (HC6.out.below (b1 w6 _)) fun k hk => hgrow.block k (by have := HC6.out.lt; simp; omega) (fun e => by have := (HO5.out.block _ e.symm).1; omega))
              have HG7 : Hid (w.grownBy w7 (some N)) := Lib.hid (grown_app HG6.out hgrow (fun b e => by have := (HO5.out.block _ e).1; omega))
              obtain ⟨rk7, -⟩ := rowc HEK7.out
              have t0 := rk7 0; have t1 := rk7 1; have t2 := rk7 2
              simp at t0 t1 t2
              have t23 : w7.cell? ⟨M, 3, none⟩ = some (.int .i64 x) := (rowc HEV7.out).1 3
              have t24 : w7.cell? ⟨M, 4, none⟩ = some (.slice A1 L c1) := (rowc HEV7.out).1 4
              have ff2 := (rowc HEV7.out).2
              clear hown hown2 hgrow hat hor blk rk7 q0 q1 q2 s24 s24a
              refine hK.out _ _ ?_ (fun hHeld => ?_)
              · (first | go_keep | (go_split_ands; refine ⟨?_, ?_, ?_⟩ <;> (rw [World.cell?_setCell_other _ _ _ _ (HNE.out _ _)]; assumption)))
              clear hK K
              try simp only [Act.put, List.setIfInBounds_toArray]
              refine wpAnyH_take (i := 10) (v := ?_) rfl (by kernel_rfl) (by kernel_rfl) (by kernel_rfl) (fun _ _ _ h => h) (Or.inl ⟨by rfl, ?_⟩) (by assumption) ?_
              rotate_left
              · (intro w hSw; (try dsimp only at hSw); go_split_ands; go_simp; try (with_reducible rfl))
              try simp only [Act.put]
              refine wpAnyH_ready (rs := [11]) (by kernel_rfl) (by simp) ?_
              refine AllReadyH.cons rfl (fun K hK => ?_) AllReadyH.nil
              go_simp
              refine hK.out _ _ ?_ (fun hHeld => ?_)
              · (first | go_keep | (go_split_ands; refine ⟨?_, ?_, ?_⟩ <;> (rw [World.cell?_setCell_other _ _ _ _ (HNE.out _ _)]; assumption)))
              clear hK K
              try simp only [Act.put, List.setIfInBounds_toArray, List.set_cons_zero, List.set_cons_succ]
              refine wpAnyH_done (by kernel_rfl) ?_ _
              cases zb with
              | true =>
                go_wp2_with (fail)
                go_roundg j
                case rel => exact ⟨j - 1, x, some ⟨g3, 0, none⟩, L + 1, c3, ks ++ [⟨true, zn, zs⟩], vs ++ [.mk k' n' s' x' ks' vs'], by go_num, by omega, by omega, x0, x1, Lib.hid ((set_other (by omega)).trans HER7.out), Lib.hid (by have := set_heap HEV7.out 4 (.slice (some ⟨g3, 0, none⟩) (L + 1) c3); simpa using this), Lib.hid (by rw [HL.out]; simp), Lib.hid (HOR.out.above fun b hb _ => set_other (by omega)), Lib.hid (by have := HB6.out; have h1 := HTT.out; have h2 := HYS.out; rw [tots_snoc _ _ _ _ HKL.out]; simp only [List.length_append, List.length_cons, List.length_nil, tot_mk]; show (vs.length + 1) + (j - 1) ≤ 4 ∧ tots ks vs + (zs.size + _) ≤ (vs.length + 1) * (2 + dB d); have h3 : (vs.length + 1) * (2 + dB d) = vs.length * (2 + dB d) + (2 + dB d) := Nat.succ_mul _ _; omega), Lib.hid (Cur.upto HC7.out fun k hk => set_other (by omega)), Lib.hid (grown_set (by omega) HG7.out)⟩
                case measure => omega
              | false =>
                go_wp2_with (fail)
                refine (specMaxD _ _ _).mono ?_
                rintro e w8 ⟨rfl, rfl⟩
                obtain ⟨q, HQ, hq0, hq1⟩ : ∃ q : Int, Hid (nums.mx x (zn + 1) = q) ∧ 0 ≤ q ∧ q ≤ 1000000001 := ⟨_, Lib.hid rfl, by unfold nums.mx; split <;> omega, by unfold nums.mx; split <;> omega⟩
                rw [HQ.out]
                go_wp2_with (fail)
                go_roundg j
                case rel => exact ⟨j - 1, q, some ⟨g3, 0, none⟩, L + 1, c3, ks ++ [⟨false, zn, zs⟩], vs ++ [.mk k' n' s' x' ks' vs'], by go_num, by omega, by omega, hq0, hq1, Lib.hid ((set_other (by omega)).trans ((set_other (by omega)).trans HER7.out)), Lib.hid (by have := set_heap (set_heap HEV7.out 4 (.slice (some ⟨g3, 0, none⟩) (L + 1) c3)) 3 (.int .i64 q); simpa using this), Lib.hid (by rw [HL.out]; simp), Lib.hid (HOR.out.above fun b hb _ => (set_other (by omega)).trans (set_other (by omega))), Lib.hid (by have := HB6.out; have h1 := HTT.out; have h2 := HYS.out; rw [tots_snoc _ _ _ _ HKL.out]; simp only [List.length_append, List.length_cons, List.length_nil, tot_mk]; show (vs.length + 1) + (j - 1) ≤ 4 ∧ tots ks vs + (zs.size + _) ≤ (vs.length + 1) * (2 + dB d); have h3 : (vs.length + 1) * (2 + dB d) = vs.length * (2 + dB d) + (2 + dB d) := Nat.succ_mul _ _; omega), Lib.hid (Cur.upto HC7.out fun k hk => (set_other (by omega)).trans (set_other (by omega))), Lib.hid (grown_set (by omega) (grown_set (by omega) HG7.out))⟩
                case measure => omega
            · go_wp2_with (fail)
              go_roundg j
              case rel => exact ⟨j - 1, x, A1, L, c1, ks, vs, by go_num, by omega, by omega, x0, x1, HER5, HEV5, HL, HO5, Lib.hid (by have := HTT.out; omega), HC5, HG5⟩
              case measure => omega
          refine (once N 2 (by omega) _ HCQ.out).mono ?_
          rintro e w3 ⟨b, rfl, hC3, hg3⟩
          have HC3 := Lib.hid hC3
          have HEV3 := Lib.hid (HVQ.out _ hg3)
          obtain ⟨HER3, HO3, HEK3, HG3, HKEEP⟩ := HALL.out _ hg3
          obtain ⟨rv3, fv3⟩ := rowc HEV3.out
          obtain ⟨rk3, fk3⟩ := rowc HEK3.out
          rw [HK.out]
          clear hC3 hg3 HVQ HCQ HALL
          cases b with
          | false =>
            go_wp2_with (fail)
            exact TAIL yb yn ys w3 _ _ _ _ _ _ _ _ _ _ _ _ _ _ _ _ _ _ _ _ _ _ _ _ _ _ _ _ _ _ _ _ _ _ _ _ _ _ _ _ _ yn0 yn1 HYS HER3 HEV3 HEK3 HO3 HC3 HG3
          | true =>
            by_cases hx9 : x ≤ 1000000000
            · obtain ⟨eF, oF, gF⟩ := put3 (.bool false) (.int .i64 x) (.string ⟨#[]⟩) HEK3.out
              have HER9 := Lib.hid ((oF _ (by omega)).trans HER3.out)
              have HEV9 := Lib.hid ((oF _ (by omega)).trans HEV3.out)
              have HEK9 := Lib.hid eF
              have HO9 := Lib.hid (HO4.out.above (fun b hb hlt => (oF b (by have := HK.out; omega)).trans (HKEEP.out b (by omega) hlt)))
              have HC9 := Lib.hid (Cur.upto HC3.out fun k hk => oF k (by omega))
              have HG9 := Lib.hid (gF w N (by omega) HG3.out)
              clear eF oF gF
              go_wp2_with (fail)
              exact TAIL false x ⟨#[]⟩ _ _ _ _ _ _ _ _ _ _ _ _ _ _ _ _ _ _ _ _ _ _ _ _ _ _ _ _ _ _ _ _ _ _ _ _ _ _ _ _ _ _ (by omega) hx9 (Lib.hid (by show (0 : Nat) ≤ 2; omega)) HER9 HEV9 HEK9 HO9 HC9 HG9
            · go_wp2_with (fail)
              exact TAIL yb yn ys w3 _ _ _ _ _ _ _ _ _ _ _ _ _ _ _ _ _ _ _ _ _ _ _ _ _ _ _ _ _ _ _ _ _ _ _ _ _ _ _ _ _ yn0 yn1 HYS HER3 HEV3 HEK3 HO3 HC3 HG3
        · obtain rfl : j = 0 := by omega
          obtain ⟨rv, fv⟩ := rowc HEV.out
          obtain ⟨rr, fr⟩ := rowc HER.out
          go_wp2_with (fail)
          generalize hwF : ((((((wr).setCell ⟨w.heap.size, 0, none⟩ (.int .i64 4)).setCell ⟨w.heap.size, 1, none⟩ (.int .i64 0)).setCell ⟨w.heap.size, 2, none⟩ (.string ⟨#[]⟩)).setCell ⟨w.heap.size, 3, none⟩ (.int .i64 x)).setCell ⟨w.heap.size, 4, none⟩ (.slice A1 L c1)) = wF
          obtain ⟨rF, hD⟩ := DTr.of (B := dB (d + 1)) (k := 4) (n := 0) (x := x) (s := ⟨#[]⟩) (ks := ks) (vs := vs) (A := A1) (L := L) (c := c1) ⟨by omega, by omega, by omega, by omega, x0, x1, by show (0 : Nat) ≤ 10; omega⟩ HL.out (by have := HTT.out; omega) hN0 HCw.out HG.out HER.out (OwQ.mono HO.out (by omega)) (by
            have h1 := HTT.out
            have h2 : vs.length * (2 + dB d) ≤ 4 * (2 + dB d) := Nat.mul_le_mul_right _ (by omega)
            show 0 + (vs.length + tots ks vs) ≤ dB (d + 1)
            rw [dB]
            omega) wF hwF.symm
          clear rv fv rr fr hwF
          refine bodyPost_ret (v := .agg #[.int .i64 4, .int .i64 0, .string ⟨#[]⟩, .int .i64 x, .slice A1 L c1]) ?_ rfl ?_
          · simp [results, Tryz.results59, go_sem, rF]
          · exact hD

end Go.Proofs.YtdglmnmalfpipaaGreatDoor.draw

