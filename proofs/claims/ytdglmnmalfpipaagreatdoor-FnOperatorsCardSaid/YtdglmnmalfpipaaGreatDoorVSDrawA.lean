/-
  The model's draw of a value, sometimes one that is not valid.
  Conditions: the cursor's block.
-/
import Derived.Test.YtdglmnmalfpipaaGreatDoorVSDrawT
import Derived.Test.YtdglmnmalfpipaaGreatDoorVB8
namespace Go.Proofs.YtdglmnmalfpipaaGreatDoor.draw
open Go.ChangeShapes Go.WideShapes Go.ChangeAt Go.RowKit tree
set_option linter.unusedVariables false

theorem OwR.nil (w : World) (P : Nat → Prop) : OwR w P (.slice none 0 0) [] [] [] := ⟨World.ownsRow_nil w 0 _ 8, fun b e => by simp [Value.ownBlock] at e, rfl, fun i hi => absurd hi (by simp)⟩
/-- A drawn value: its items lie in a row of its own. -/
def DAny (N : Nat) (w : World) (e : Ending) (w' : World) : Prop := ∃ (k n : Int) (s : ByteArray) (x : Int) (ks : List Ky) (vs : List Tr) (xs : List Value) (A : Option Addr) (L c : Nat), e = .returned (vV k n s x A L c) ∧
  (-1 ≤ k ∧ k ≤ 9 ∧ I64 n ∧ I64 x ∧ s.size ≤ 10) ∧ L = vs.length ∧ vs.length ≤ 5 ∧ OwP w' w.heap.size (.slice A L c) xs ks vs ∧ s.size + (vs.length + tots ks vs) ≤ 1000 ∧ Cur w' N ∧ w.grownBy w' (some N)
theorem DAny.of {N : Nat} {w w2 : World} {P : Nat → Prop} {k n x : Int} {s : ByteArray} {ks : List Ky} {vs : List Tr} {xs : List Value} {A : Option Addr} {L c : Nat} (hb : -1 ≤ k ∧ k ≤ 9 ∧ I64 n ∧ I64 x ∧ s.size ≤ 10) (hL : L = vs.length) (h5 : vs.length ≤ 5)
    (hN : N < w.heap.size) (hC : Cur w2 N) (hg : w.grownBy w2 (some N)) (hR : w2.heap[w.heap.size]? = some (.cells #[.int .i64 0, .int .i64 0, .string ⟨#[]⟩, .int .i64 0, .slice none 0 0] IV (0, 0))) (hO : OwR w2 P (.slice A L c) xs ks vs) (hP : ∀ b, P b → w.heap.size < b ∧ Plain w2 b) (hB : s.size + (vs.length + tots ks vs) ≤ 1000) (wF : World)
    (hF : wF = ((((w2.setCell ⟨w.heap.size, 0, none⟩ (.int .i64 k)).setCell ⟨w.heap.size, 1, none⟩ (.int .i64 n)).setCell ⟨w.heap.size, 2, none⟩ (.string s)).setCell ⟨w.heap.size, 3, none⟩ (.int .i64 x)).setCell ⟨w.heap.size, 4, none⟩ (.slice A L c)) :
    (∀ j, wF.cell? ⟨w.heap.size, j, none⟩ = #[Value.int .i64 k, .int .i64 n, .string s, .int .i64 x, .slice A L c][j]?) ∧ DAny N w (.returned (vV k n s x A L c)) wF := by
  obtain ⟨eF, oF, gF⟩ := put5 (.int .i64 k) (.int .i64 n) (.string s) (.int .i64 x) (.slice A L c) hR
  rw [← hF] at eF oF gF
  exact ⟨(rowc eF).1, k, n, s, x, ks, vs, xs, A, L, c, rfl, hb, hL, h5, (hO.keep fun b hb _ => oF b (by have := (hP b hb).1; omega)).mono (fun b hb => ⟨by have := (hP b hb).1; omega, (hP b hb).2.same (oF b (by have := (hP b hb).1; omega))⟩), hB, Cur.upto hC fun k hk => oF k (by omega), gF w N (Nat.le_refl _) hg⟩

set_option maxRecDepth 100000 in
set_option maxHeartbeats 8000000 in
theorem drawA (N : Nat) (w : World) (hC : Cur w N) : Calls Tryz.prog 81 #[.pointer (some ⟨N, 0, none⟩)] w (DAny N w) := by
  have hN0 := hC.lt
  have HC := Lib.hid hC
  clear hC
  obtain ⟨i0, hi, hzz⟩ := ie_info
  have HII := Lib.hid hi
  have HZZ := Lib.hid hzz
  clear hi hzz
  go_enter Tryz.func81, Tryz.ntmps81
  go_wp2_with (fail)
  refine (drawT N 3 3 rfl (by omega) _ (HC.out.new _)).mono ?_
  rintro e w1 ⟨k, n, s, x, ks, vs, A, L, c, rfl, hbd, hL, h4, hO, hB, hC1, hg1⟩
  have HC1 := Lib.hid hC1
  have HG1 := Lib.hid (only_trans (World.grownBy_alloc w (.cells #[.int .i64 0, .int .i64 0, .string ⟨#[]⟩, .int .i64 0, .slice none 0 0] IV) (some N)) hg1)
  have HER1 := Lib.hid (past hg1 (heap_alloc_new w (.cells #[.int .i64 0, .int .i64 0, .string ⟨#[]⟩, .int .i64 0, .slice none 0 0] IV)) hN0)
  have HBD := Lib.hid hbd
  have HBB := Lib.hid hB
  have HL := Lib.hid hL
  obtain ⟨M, HM⟩ : ∃ M, Hid (w1.heap.size = M) := ⟨_, Lib.hid rfl⟩
  have hWM : w.heap.size < M := by rw [← HM.out]; exact (Array.getElem?_eq_some_iff.1 HER1.out).1
  obtain ⟨xs, hx⟩ := hO
  have hO1 : OwR w1 (fun b => w.heap.size < b ∧ b < M ∧ Plain w1 b) (.slice A L c) xs ks vs := OwR.mono hx fun b hb => ⟨by have := hb.1; simp at this; omega, by rw [← HM.out]; exact hb.2.lt, hb.2⟩
  have HO1 := Lib.hid hO1
  have hL4 : L ≤ 4 := by omega
  clear hC1 hg1 hbd hB hL hx hO1
  go_wp2_with (fail)
  have nv := heap_alloc_new w1 (.cells #[.int .i64 k, .int .i64 n, .string s, .int .i64 x, .slice A L c] IV)
  have nb := b1 w1 (.cells #[.int .i64 k, .int .i64 n, .string s, .int .i64 x, .slice A L c] IV)
  refine (below N 14 (by omega) _ (HC1.out.below nb)).mono ?_
  rintro e w2 ⟨q, rfl, q0, q1, hC2, hg2⟩
  have hNM : N < M := by omega
  have HC2 := Lib.hid hC2
  have HG2 := Lib.hid (only_trans (only_trans HG1.out (grown_of_below nb N)) hg2)
  have HER2 := Lib.hid (past hg2 (carry nb HER1.out) hN0)
  have HEV2 : Hid (w2.heap[M]? = some (.cells #[.int .i64 k, .int .i64 n, .string s, .int .i64 x, .slice A L c] IV (0, 0))) := Lib.hid (by have := past hg2 nv (by rw [HM.out]; exact hNM); rwa [HM.out] at this)
  have HS2 : Hid (∀ b, w.heap.size < b ∧ b < M → w2.heap[b]? = w1.heap[b]?) := Lib.hid (fun b hb => (hg2.block b (by have := HM.out; simp; omega) (ne_of (by omega))).trans (nb.block b (by have := HM.out; omega)))
  have HO2 : Hid (OwR w2 (fun b => w.heap.size < b ∧ b < M ∧ Plain w1 b) (.slice A L c) xs ks vs) := Lib.hid (HO1.out.keep fun b hb hl => HS2.out b ⟨hb.1, hb.2.1⟩)
  rw [HM.out]
  clear nv nb hC2 hg2 HC1 HG1 HER1 HO1
  obtain ⟨r2, f2⟩ := rowc HEV2.out
  obtain ⟨rr2, fr2⟩ := rowc HER2.out
  by_cases h0 : q = 0
  · subst h0
    go_wp2_with (fail)
    refine (odd N _ HC2.out).mono ?_
    rintro e w3 ⟨z, rfl, z0, z1, hC3, hg3⟩
    have HC3 := Lib.hid hC3
    have HG3 := Lib.hid (only_trans HG2.out hg3)
    have HER3 := Lib.hid (past hg3 HER2.out hN0)
    have HEV3 := Lib.hid (past hg3 HEV2.out hNM)
    have HS3 : Hid (∀ b, w.heap.size < b ∧ b < M → w3.heap[b]? = w1.heap[b]?) := Lib.hid (fun b hb => (hg3.block b (by have := (Array.getElem?_eq_some_iff.1 HEV2.out).1; omega) (ne_of (by omega))).trans (HS2.out b hb))
    have HO3 : Hid (OwR w3 (fun b => w.heap.size < b ∧ b < M ∧ Plain w1 b) (.slice A L c) xs ks vs) := Lib.hid (HO2.out.keep fun b hb hl => hg3.block b hl (ne_of (by omega)))
    obtain ⟨r3, f3⟩ := rowc HEV3.out
    obtain ⟨rr3, fr3⟩ := rowc HER3.out
    clear hC3 hg3 r2 f2 rr2 fr2 HC2 HG2 HER2 HEV2 HO2
    go_wp2_with (fail)
    generalize hwF : ((((((w3.setCell ⟨M, 1, none⟩ (.int .i64 z)).setCell ⟨w.heap.size, 0, none⟩ (.int .i64 (k))).setCell ⟨w.heap.size, 1, none⟩ (.int .i64 (z))).setCell ⟨w.heap.size, 2, none⟩ (.string s)).setCell ⟨w.heap.size, 3, none⟩ (.int .i64 (x))).setCell ⟨w.heap.size, 4, none⟩ (.slice A L c)) = wF
    obtain ⟨rF, hD⟩ := DAny.of (k := k) (n := z) (x := x) (s := s) (ks := ks) (vs := vs) (xs := xs) (A := A) (L := L) (c := c) (by have := HBD.out; unfold I64; omega) HL.out (by have := HL.out; omega) hN0 (Cur.upto HC3.out fun k hk => set_other (by omega)) (grown_set (by omega) HG3.out) ((set_other (by omega)).trans HER3.out) (HO3.out.keep fun b hb hl => set_other (by omega)) (fun b hb => ⟨hb.1, hb.2.2.same ((set_other (by omega)).trans (HS3.out b ⟨hb.1, hb.2.1⟩))⟩) (by have := HBB.out; have := dB_le (d := 3) (by omega); omega) wF hwF.symm
    clear r3 f3 rr3 fr3 hwF
    refine bodyPost_ret (v := .agg #[.int .i64 (k), .int .i64 (z), .string s, .int .i64 (x), .slice A L c]) ?_ rfl ?_
    · simp [results, Tryz.results81, go_sem, rF]
    · exact hD
  by_cases h1 : q = 1
  · subst h1
    go_wp2_with (fail)
    refine (odd N _ HC2.out).mono ?_
    rintro e w3 ⟨z, rfl, z0, z1, hC3, hg3⟩
    have HC3 := Lib.hid hC3
    have HG3 := Lib.hid (only_trans HG2.out hg3)
    have HER3 := Lib.hid (past hg3 HER2.out hN0)
    have HEV3 := Lib.hid (past hg3 HEV2.out hNM)
    have HS3 : Hid (∀ b, w.heap.size < b ∧ b < M → w3.heap[b]? = w1.heap[b]?) := Lib.hid (fun b hb => (hg3.block b (by have := (Array.getElem?_eq_some_iff.1 HEV2.out).1; omega) (ne_of (by omega))).trans (HS2.out b hb))
    have HO3 : Hid (OwR w3 (fun b => w.heap.size < b ∧ b < M ∧ Plain w1 b) (.slice A L c) xs ks vs) := Lib.hid (HO2.out.keep fun b hb hl => hg3.block b hl (ne_of (by omega)))
    obtain ⟨r3, f3⟩ := rowc HEV3.out
    obtain ⟨rr3, fr3⟩ := rowc HER3.out
    clear hC3 hg3 r2 f2 rr2 fr2 HC2 HG2 HER2 HEV2 HO2
    go_wp2_with (fail)
    generalize hwF : ((((((w3.setCell ⟨M, 3, none⟩ (.int .i64 z)).setCell ⟨w.heap.size, 0, none⟩ (.int .i64 (k))).setCell ⟨w.heap.size, 1, none⟩ (.int .i64 (n))).setCell ⟨w.heap.size, 2, none⟩ (.string s)).setCell ⟨w.heap.size, 3, none⟩ (.int .i64 (z))).setCell ⟨w.heap.size, 4, none⟩ (.slice A L c)) = wF
    obtain ⟨rF, hD⟩ := DAny.of (k := k) (n := n) (x := z) (s := s) (ks := ks) (vs := vs) (xs := xs) (A := A) (L := L) (c := c) (by have := HBD.out; unfold I64; omega) HL.out (by have := HL.out; omega) hN0 (Cur.upto HC3.out fun k hk => set_other (by omega)) (grown_set (by omega) HG3.out) ((set_other (by omega)).trans HER3.out) (HO3.out.keep fun b hb hl => set_other (by omega)) (fun b hb => ⟨hb.1, hb.2.2.same ((set_other (by omega)).trans (HS3.out b ⟨hb.1, hb.2.1⟩))⟩) (by have := HBB.out; have := dB_le (d := 3) (by omega); omega) wF hwF.symm
    clear r3 f3 rr3 fr3 hwF
    refine bodyPost_ret (v := .agg #[.int .i64 (k), .int .i64 (n), .string s, .int .i64 (z), .slice A L c]) ?_ rfl ?_
    · simp [results, Tryz.results81, go_sem, rF]
    · exact hD
  by_cases h2 : q = 2
  · subst h2
    have HI := Lib.hid (ints_new (-1) 9 w2 3 [-1, 4, 5, 6, 7, 8, 9] (by decide) N HC2.out.lt)
    go_wp2_with (fail)
    refine (pickInt (-1) 9 N w2.heap.size 7 7 (by omega) (by omega) _ (HC2.out.new _) HI.out).mono ?_
    rintro e w3 ⟨z, rfl, z0, z1, hC3, hg3'⟩
    have hg3 : w2.grownBy w3 (some N) := only_trans (World.grownBy_alloc w2 _ (some N)) hg3'
    have HC3 := Lib.hid hC3
    have HG3 := Lib.hid (only_trans HG2.out hg3)
    have HER3 := Lib.hid (past hg3 HER2.out hN0)
    have HEV3 := Lib.hid (past hg3 HEV2.out hNM)
    have HS3 : Hid (∀ b, w.heap.size < b ∧ b < M → w3.heap[b]? = w1.heap[b]?) := Lib.hid (fun b hb => (hg3.block b (by have := (Array.getElem?_eq_some_iff.1 HEV2.out).1; omega) (ne_of (by omega))).trans (HS2.out b hb))
    have HO3 : Hid (OwR w3 (fun b => w.heap.size < b ∧ b < M ∧ Plain w1 b) (.slice A L c) xs ks vs) := Lib.hid (HO2.out.keep fun b hb hl => hg3.block b hl (ne_of (by omega)))
    obtain ⟨r3, f3⟩ := rowc HEV3.out
    obtain ⟨rr3, fr3⟩ := rowc HER3.out
    clear hC3 hg3 r2 f2 rr2 fr2 HC2 HG2 HER2 HEV2 HO2
    go_wp2_with (fail)
    generalize hwF : ((((((w3.setCell ⟨M, 0, none⟩ (.int .i64 z)).setCell ⟨w.heap.size, 0, none⟩ (.int .i64 (z))).setCell ⟨w.heap.size, 1, none⟩ (.int .i64 (n))).setCell ⟨w.heap.size, 2, none⟩ (.string s)).setCell ⟨w.heap.size, 3, none⟩ (.int .i64 (x))).setCell ⟨w.heap.size, 4, none⟩ (.slice A L c)) = wF
    obtain ⟨rF, hD⟩ := DAny.of (k := z) (n := n) (x := x) (s := s) (ks := ks) (vs := vs) (xs := xs) (A := A) (L := L) (c := c) (by have := HBD.out; unfold I64; omega) HL.out (by have := HL.out; omega) hN0 (Cur.upto HC3.out fun k hk => set_other (by omega)) (grown_set (by omega) HG3.out) ((set_other (by omega)).trans HER3.out) (HO3.out.keep fun b hb hl => set_other (by omega)) (fun b hb => ⟨hb.1, hb.2.2.same ((set_other (by omega)).trans (HS3.out b ⟨hb.1, hb.2.1⟩))⟩) (by have := HBB.out; have := dB_le (d := 3) (by omega); omega) wF hwF.symm
    clear r3 f3 rr3 fr3 hwF
    refine bodyPost_ret (v := .agg #[.int .i64 (z), .int .i64 (n), .string s, .int .i64 (x), .slice A L c]) ?_ rfl ?_
    · simp [results, Tryz.results81, go_sem, rF]
    · exact hD
  by_cases h3 : q = 3
  · subst h3
    have s24 : w2.cell? ⟨M, 4, none⟩ = some (.slice A L c) := r2 4
    clear r2 f2 rr2 fr2
    go_wp2_with (fail)
    refine wp_region_held_drew (S := (fun _ => True)) (by kernel_rfl) ?_ (fun hHeld => ?_)
    · trivial
    refine wpAnyH_take (i := 0) (v := ?_) rfl (by kernel_rfl) (by kernel_rfl) (by kernel_rfl) (fun _ _ _ h => h) (Or.inl ⟨by rfl, ?_⟩) (by assumption) ?_
    rotate_left
    · (intro w hSw; (try dsimp only at hSw); go_split_ands; go_simp; try (with_reducible rfl))
    try simp only [Act.put, List.setIfInBounds_toArray]
    refine wpAnyH_take (i := 2) (v := ?_) rfl (by kernel_rfl) (by kernel_rfl) (by kernel_rfl) (fun _ _ _ h => h) (Or.inl ⟨by rfl, ?_⟩) (by assumption) ?_
    rotate_left
    · (intro w hSw; (try dsimp only at hSw); go_split_ands; go_simp; try (with_reducible rfl))
    try simp only [Act.put]
    refine wpAnyH_take (i := 4) (v := ?_) rfl (by kernel_rfl) (by kernel_rfl) (by kernel_rfl) (fun _ _ _ h => h) (Or.inl ⟨by rfl, ?_⟩) (by assumption) ?_
    rotate_left
    · (intro w hSw; (try dsimp only at hSw); go_split_ands; go_simp; try (with_reducible rfl))
    try simp only [Act.put]
    refine wpAnyH_ready (rs := [1, 3]) (by kernel_rfl) (by simp) ?_
    refine AllReadyH.cons rfl (fun K hK => ?_) ?_
    · go_simp
      refine hK.out _ _ ?_ (fun hHeld => ?_)
      · trivial
      clear hK K
      try simp only [Act.put, List.setIfInBounds_toArray, List.set_cons_zero, List.set_cons_succ]
      refine wpAnyH_ready (rs := [3]) (by kernel_rfl) (by simp) ?_
      refine AllReadyH.cons rfl (fun K hK => ?_) AllReadyH.nil
      go_simp
      go_at_call 55
      refine (key N _ (HC2.out.below (Below.refl w2.heap.size w2).drew)).mono ?_
      rintro e w3 ⟨⟨yb, yn, ys⟩, rfl, hyb, hC3, hg3⟩
      simp only at hyb
      have hg3' : w2.grownBy w3 (some N) := only_trans (grown_of_below (Below.refl w2.heap.size w2).drew N) hg3
      have HYB := Lib.hid hyb
      have HC3 := Lib.hid hC3
      have HG3 := Lib.hid (only_trans HG2.out hg3')
      have HER3 := Lib.hid (past hg3' HER2.out hN0)
      have HEV3 := Lib.hid (past hg3' HEV2.out hNM)
      have HS3 : Hid (∀ b, w.heap.size < b ∧ b < M → w3.heap[b]? = w1.heap[b]?) := Lib.hid (fun b hb => (hg3'.block b (by have := (Array.getElem?_eq_some_iff.1 HEV2.out).1; omega) (ne_of (by omega))).trans (HS2.out b hb))
      have HO3 : Hid (OwR w3 (fun b => w.heap.size < b ∧ b < M ∧ Plain w1 b) (.slice A L c) xs ks vs) := Lib.hid (HO2.out.keep fun b hb hl => hg3'.block b hl (ne_of (by omega)))
      have s34 : w3.cell? ⟨M, 4, none⟩ = some (.slice A L c) := (rowc HEV3.out).1 4
      unfold kyV
      simp only
      clear hyb hC3 hg3 hg3'
      try go_wp2_with (fail)
      refine hK.out _ _ ?_ (fun hHeld => ?_)
      · trivial
      clear hK K
      try simp only [Act.put, List.setIfInBounds_toArray, List.set_cons_zero, List.set_cons_succ]
      refine wpAnyH_ready (rs := [5]) (by kernel_rfl) (by simp) ?_
      refine AllReadyH.cons rfl (fun K hK => ?_) AllReadyH.nil
      go_simp
      go_at_call 130
      refine (scalar N _ HC3.out).mono ?_
      rintro e w4 ⟨k', n', s', rfl, hbd, hC4, hg4⟩
      have HBE := Lib.hid hbd
      have HC4 := Lib.hid hC4
      have HG4 := Lib.hid (only_trans HG3.out hg4)
      have HER4 := Lib.hid (past hg4 HER3.out hN0)
      have HEV4 := Lib.hid (past hg4 HEV3.out hNM)
      have HS4 : Hid (∀ b, w.heap.size < b ∧ b < M → w4.heap[b]? = w1.heap[b]?) := Lib.hid (fun b hb => (hg4.block b (by have := (Array.getElem?_eq_some_iff.1 HEV3.out).1; omega) (ne_of (by omega))).trans (HS3.out b hb))
      have HO4 : Hid (OwR w4 (fun b => w.heap.size < b ∧ b < M ∧ Plain w1 b) (.slice A L c) xs ks vs) := Lib.hid (HO3.out.keep fun b hb hl => hg4.block b hl (ne_of (by omega)))
      have s44 : w4.cell? ⟨M, 4, none⟩ = some (.slice A L c) := (rowc HEV4.out).1 4
      have s44a : ∀ o, (w4.alloc o).cell? ⟨M, 4, none⟩ = some (.slice A L c) := fun o => (rowc (keepAlloc HEV4.out)).1 4
      have HOW : Hid (∀ o, (w4.alloc o).ownsRow 0 IE 8 (.slice A L c) L xs) := Lib.hid fun o => by
        have := (HO4.out.below (b1 w4 o)).1
        rwa [← HL.out] at this
      clear hbd hC4 hg4
      try go_wp2_with (fail)
      refine hK.out _ _ ?_ (fun hHeld => ?_)
      · trivial
      clear hK K
      try simp only [Act.put, List.setIfInBounds_toArray, List.set_cons_zero, List.set_cons_succ]
      refine wpAnyH_take (i := 6) (v := ?_) rfl (by kernel_rfl) (by kernel_rfl) (by kernel_rfl) (fun _ _ _ h => h) (Or.inl ⟨by rfl, ?_⟩) (by assumption) ?_
      rotate_left
      · (intro w hSw; (try dsimp only at hSw); go_split_ands; go_simp; try (with_reducible rfl))
      try simp only [Act.put, List.setIfInBounds_toArray]
      refine wpAnyH_ready (rs := [7]) (by kernel_rfl) (by simp) ?_
      refine AllReadyH.cons rfl (fun K hK => ?_) AllReadyH.nil
      go_simp
      refine hK.out _ _ ?_ (fun hHeld => ?_)
      · trivial
      clear hK K
      try simp only [Act.put, List.setIfInBounds_toArray, List.set_cons_zero, List.set_cons_succ]
      refine wpAnyH_ready (rs := [8]) (by kernel_rfl) (by simp) ?_
      refine AllReadyH.cons rfl (fun K hK => ?_) AllReadyH.nil
      refine step_append_lies _ (by rfl) _ _ 30 (by rfl) 0 IE i0 _ 8 96 Tryz.underlying30 HII.out HZZ.out.1 HZZ.out.2.1 HZZ.out.2.2 rfl (by decide) (.slice A L c) L xs (by rfl) (HOW.out _) ⟨w4.heap.size, 0, none⟩ 1 1 [.bool yb, .int .i64 yn, .string ys, .int .i64 k', .int .i64 n', .string s', .int .i64 0, .slice none 0 0] (by rfl) (by rfl) (eight_new w4 _ _ _ _ _ _ _ _ _) (eight_one _ _ _ _ _ _ _ _ _ _) (by omega) (by unfold maxLen; omega) (by omega) (by omega) (w4.heap.size + 1) (by simp) ?_
      intro g3 c3 w7 hown hgrow hat hlt3
      have hown2 : w7.ownsRow 0 IE 8 (.slice (some ⟨g3, 0, none⟩) (L + 1) c3) (vs.length + 1) (xs ++ [.bool yb, .int .i64 yn, .string ys, .int .i64 k', .int .i64 n', .string s', .int .i64 0, .slice none 0 0]) := by
        rw [← HL.out]
        exact hown
      have hOM : ∀ b, (Value.slice A L c).ownBlock = some b → w.heap.size < b ∧ b < M := fun b e => ⟨(HO4.out.2.1 b e).1, (HO4.out.2.1 b e).2.1⟩
      have hor := (HO4.out.below (b1 w4 _)).more (Q := fun _ => False) (y := ⟨yb, yn, ys⟩) (k := k') (n := n') (s := s') (x := 0) (ks' := []) (vs' := []) (A := none) (c := 0) (v' := .slice (some ⟨g3, 0, none⟩) (L + 1) c3) (show I64 yn ∧ ys.size ≤ maxLen from ⟨by have := HYB.out; unfold I64; omega, by have := HYB.out; unfold maxLen; omega⟩) (flat ⟨by have := HBE.out; unfold I64; omega, by have := HBE.out; unfold I64; omega, by unfold I64; omega, by have := HBE.out; unfold maxLen; omega⟩ _ _ none 0 (Nat.zero_le _)) (fun _ h => h.elim) hown2 hgrow (hat.imp (fun h => h.symm) (fun h => by rw [h]; simp [Value.ownBlock]))
      have hgb : ∀ b, (Value.slice (some ⟨g3, 0, none⟩) (L + 1) c3).ownBlock = some b → w.heap.size < b ∧ b ≠ M ∧ Plain w7 b := fun b e => by
        simp [Value.ownBlock] at e
        subst e
        have hpl : Plain w7 g3 := by
          rcases hown.2 with ⟨h, -⟩ | ⟨g, cap, cur, h, hlo, hgc, hr⟩
          · cases h
          · injection h with h1; injection h1 with h1; injection h1 with h1; subst h1; exact ⟨cur, IE, hgc⟩
        rcases hat with h | h
        · have := hOM _ h; exact ⟨by omega, by omega, hpl⟩
        · have := (Array.getElem?_eq_some_iff.1 HEV4.out).1; exact ⟨by omega, by omega, hpl⟩
      have HOR : Hid (OwR w7 (fun b => w.heap.size < b ∧ b ≠ M ∧ Plain w7 b) _ _ _ _) := Lib.hid (hor.mono fun b hb => hb.elim (fun h => h.elim (fun h => ⟨h.1.1, by have := h.1.2.1; omega, h.1.2.2.same ((hgrow.block b (by have := h.1.2.1; have := (Array.getElem?_eq_some_iff.1 HEV4.out).1; simp; omega) (fun e => h.2 e.symm)).trans (((b1 w4 _).block b (by have := h.1.2.1; have := (Array.getElem?_eq_some_iff.1 HEV4.out).1; omega)).trans (HS4.out b ⟨h.1.1, h.1.2.1⟩)))⟩) (fun h => h.elim)) (hgb b))
      have blk : ∀ (b : Nat) (o : Obj), w4.heap[b]? = some o → (b ≤ w.heap.size ∨ b = M) → w7.heap[b]? = some o := fun b o h hb => (hgrow.block b (by have := (Array.getElem?_eq_some_iff.1 h).1; simp; omega) (fun e => by have := hOM _ e.symm; omega)).trans (keepAlloc h)
      have HER7 := Lib.hid (blk _ _ HER4.out (by omega))
      have HEV7 := Lib.hid (blk _ _ HEV4.out (by omega))
      have HC7 : Hid (Cur w7 N) := Lib.hid (Cur.upto (HC4.out.below (b1 w4 _)) fun k hk => hgrow.block k (by have := HC4.out.lt; simp; omega) (fun e => by have := hOM _ e.symm; omega))
      have HG7 : Hid (w.grownBy w7 (some N)) := Lib.hid (grown_app HG4.out hgrow (fun b e => by have := hOM _ e; omega))
      have t7 : ∀ j, w7.cell? ⟨M, j, none⟩ = (#[.int .i64 k, .int .i64 n, .string s, .int .i64 x, .slice A L c] : Array Value)[j]? := (rowc HEV7.out).1
      have ff7 := (rowc HEV7.out).2
      obtain ⟨rr7, fr7⟩ := rowc HER7.out
      clear hown hown2 hOM hgrow hat hor hgb blk s34 s44 s44a
      refine hK.out _ _ ?_ (fun hHeld => ?_)
      · trivial
      clear hK K
      try simp only [Act.put, List.setIfInBounds_toArray]
      refine wpAnyH_take (i := 9) (v := ?_) rfl (by kernel_rfl) (by kernel_rfl) (by kernel_rfl) (fun _ _ _ h => h) (Or.inl ⟨by rfl, ?_⟩) (by assumption) ?_
      rotate_left
      · (intro w hSw; (try dsimp only at hSw); go_split_ands; go_simp; try (with_reducible rfl))
      try simp only [Act.put]
      refine wpAnyH_ready (rs := [10]) (by kernel_rfl) (by simp) ?_
      refine AllReadyH.cons rfl (fun K hK => ?_) AllReadyH.nil
      go_simp
      refine hK.out _ _ ?_ (fun hHeld => ?_)
      · trivial
      clear hK K
      try simp only [Act.put, List.setIfInBounds_toArray, List.set_cons_zero, List.set_cons_succ]
      refine wpAnyH_done (by kernel_rfl) ?_ _
      go_wp2_with (fail)
      generalize hwF : ((((((w7.setCell ⟨M, 4, none⟩ (.slice (some ⟨g3, 0, none⟩) (L + 1) c3)).setCell ⟨w.heap.size, 0, none⟩ (.int .i64 (k))).setCell ⟨w.heap.size, 1, none⟩ (.int .i64 (n))).setCell ⟨w.heap.size, 2, none⟩ (.string s)).setCell ⟨w.heap.size, 3, none⟩ (.int .i64 (x))).setCell ⟨w.heap.size, 4, none⟩ (.slice (some ⟨g3, 0, none⟩) (L + 1) c3)) = wF
      obtain ⟨rF, hD⟩ := DAny.of (k := k) (n := n) (x := x) (s := s) (ks := (ks ++ [⟨yb, yn, ys⟩])) (vs := (vs ++ [.mk k' n' s' 0 [] []])) (xs := _) (A := (some ⟨g3, 0, none⟩)) (L := (L + 1)) (c := c3) (by have := HBD.out; unfold I64; omega) (by rw [HL.out]; simp) (by have := HL.out; simp; omega) hN0 (Cur.upto HC7.out fun k hk => set_other (by omega)) (grown_set (by omega) HG7.out) ((set_other (by omega)).trans HER7.out) (HOR.out.keep fun b hb hl => set_other hb.2.1) (fun b hb => ⟨hb.1, hb.2.2.same (set_other hb.2.1)⟩) (by have := HBB.out; have := dB_le (d := 3) (by omega); have h2 := HYB.out; have h3 := HBE.out; rw [tots_snoc _ _ _ _ HO4.out.2.2.1, tot_mk]; simp only [List.length_append, List.length_cons, List.length_nil, tots]; show s.size + (vs.length + 1 + (tots ks vs + (ys.size + (s'.size + (0 + 0))))) ≤ 1000; omega) wF hwF.symm
      clear t7 ff7 rr7 fr7 hwF
      refine bodyPost_ret (v := .agg #[.int .i64 (k), .int .i64 (n), .string s, .int .i64 (x), .slice (some ⟨g3, 0, none⟩) (L + 1) c3]) ?_ rfl ?_
      · simp [results, Tryz.results81, go_sem, rF]
      · exact hD
    refine AllReadyH.cons rfl (fun K hK => ?_) AllReadyH.nil
    go_simp
    go_at_call 55
    refine (key N _ (HC2.out.below (Below.refl w2.heap.size w2).drew)).mono ?_
    rintro e w3 ⟨⟨yb, yn, ys⟩, rfl, hyb, hC3, hg3⟩
    simp only at hyb
    have hg3' : w2.grownBy w3 (some N) := only_trans (grown_of_below (Below.refl w2.heap.size w2).drew N) hg3
    have HYB := Lib.hid hyb
    have HC3 := Lib.hid hC3
    have HG3 := Lib.hid (only_trans HG2.out hg3')
    have HER3 := Lib.hid (past hg3' HER2.out hN0)
    have HEV3 := Lib.hid (past hg3' HEV2.out hNM)
    have HS3 : Hid (∀ b, w.heap.size < b ∧ b < M → w3.heap[b]? = w1.heap[b]?) := Lib.hid (fun b hb => (hg3'.block b (by have := (Array.getElem?_eq_some_iff.1 HEV2.out).1; omega) (ne_of (by omega))).trans (HS2.out b hb))
    have HO3 : Hid (OwR w3 (fun b => w.heap.size < b ∧ b < M ∧ Plain w1 b) (.slice A L c) xs ks vs) := Lib.hid (HO2.out.keep fun b hb hl => hg3'.block b hl (ne_of (by omega)))
    have s34 : w3.cell? ⟨M, 4, none⟩ = some (.slice A L c) := (rowc HEV3.out).1 4
    unfold kyV
    simp only
    clear hyb hC3 hg3 hg3'
    try go_wp2_with (fail)
    refine hK.out _ _ ?_ (fun hHeld => ?_)
    · trivial
    clear hK K
    try simp only [Act.put, List.setIfInBounds_toArray, List.set_cons_zero, List.set_cons_succ]
    refine wpAnyH_ready (rs := [1, 5]) (by kernel_rfl) (by simp) ?_
    refine AllReadyH.cons rfl (fun K hK => ?_) ?_
    · go_simp
      refine hK.out _ _ ?_ (fun hHeld => ?_)
      · trivial
      clear hK K
      try simp only [Act.put, List.setIfInBounds_toArray, List.set_cons_zero, List.set_cons_succ]
      refine wpAnyH_ready (rs := [5]) (by kernel_rfl) (by simp) ?_
      refine AllReadyH.cons rfl (fun K hK => ?_) AllReadyH.nil
      go_simp
      go_at_call 130
      refine (scalar N _ HC3.out).mono ?_
      rintro e w4 ⟨k', n', s', rfl, hbd, hC4, hg4⟩
      have HBE := Lib.hid hbd
      have HC4 := Lib.hid hC4
      have HG4 := Lib.hid (only_trans HG3.out hg4)
      have HER4 := Lib.hid (past hg4 HER3.out hN0)
      have HEV4 := Lib.hid (past hg4 HEV3.out hNM)
      have HS4 : Hid (∀ b, w.heap.size < b ∧ b < M → w4.heap[b]? = w1.heap[b]?) := Lib.hid (fun b hb => (hg4.block b (by have := (Array.getElem?_eq_some_iff.1 HEV3.out).1; omega) (ne_of (by omega))).trans (HS3.out b hb))
      have HO4 : Hid (OwR w4 (fun b => w.heap.size < b ∧ b < M ∧ Plain w1 b) (.slice A L c) xs ks vs) := Lib.hid (HO3.out.keep fun b hb hl => hg4.block b hl (ne_of (by omega)))
      have s44 : w4.cell? ⟨M, 4, none⟩ = some (.slice A L c) := (rowc HEV4.out).1 4
      have s44a : ∀ o, (w4.alloc o).cell? ⟨M, 4, none⟩ = some (.slice A L c) := fun o => (rowc (keepAlloc HEV4.out)).1 4
      have HOW : Hid (∀ o, (w4.alloc o).ownsRow 0 IE 8 (.slice A L c) L xs) := Lib.hid fun o => by
        have := (HO4.out.below (b1 w4 o)).1
        rwa [← HL.out] at this
      clear hbd hC4 hg4
      try go_wp2_with (fail)
      refine hK.out _ _ ?_ (fun hHeld => ?_)
      · trivial
      clear hK K
      try simp only [Act.put, List.setIfInBounds_toArray, List.set_cons_zero, List.set_cons_succ]
      refine wpAnyH_take (i := 6) (v := ?_) rfl (by kernel_rfl) (by kernel_rfl) (by kernel_rfl) (fun _ _ _ h => h) (Or.inl ⟨by rfl, ?_⟩) (by assumption) ?_
      rotate_left
      · (intro w hSw; (try dsimp only at hSw); go_split_ands; go_simp; try (with_reducible rfl))
      try simp only [Act.put, List.setIfInBounds_toArray]
      refine wpAnyH_ready (rs := [7]) (by kernel_rfl) (by simp) ?_
      refine AllReadyH.cons rfl (fun K hK => ?_) AllReadyH.nil
      go_simp
      refine hK.out _ _ ?_ (fun hHeld => ?_)
      · trivial
      clear hK K
      try simp only [Act.put, List.setIfInBounds_toArray, List.set_cons_zero, List.set_cons_succ]
      refine wpAnyH_ready (rs := [8]) (by kernel_rfl) (by simp) ?_
      refine AllReadyH.cons rfl (fun K hK => ?_) AllReadyH.nil
      refine step_append_lies _ (by rfl) _ _ 30 (by rfl) 0 IE i0 _ 8 96 Tryz.underlying30 HII.out HZZ.out.1 HZZ.out.2.1 HZZ.out.2.2 rfl (by decide) (.slice A L c) L xs (by rfl) (HOW.out _) ⟨w4.heap.size, 0, none⟩ 1 1 [.bool yb, .int .i64 yn, .string ys, .int .i64 k', .int .i64 n', .string s', .int .i64 0, .slice none 0 0] (by rfl) (by rfl) (eight_new w4 _ _ _ _ _ _ _ _ _) (eight_one _ _ _ _ _ _ _ _ _ _) (by omega) (by unfold maxLen; omega) (by omega) (by omega) (w4.heap.size + 1) (by simp) ?_
      intro g3 c3 w7 hown hgrow hat hlt3
      have hown2 : w7.ownsRow 0 IE 8 (.slice (some ⟨g3, 0, none⟩) (L + 1) c3) (vs.length + 1) (xs ++ [.bool yb, .int .i64 yn, .string ys, .int .i64 k', .int .i64 n', .string s', .int .i64 0, .slice none 0 0]) := by
        rw [← HL.out]
        exact hown
      have hOM : ∀ b, (Value.slice A L c).ownBlock = some b → w.heap.size < b ∧ b < M := fun b e => ⟨(HO4.out.2.1 b e).1, (HO4.out.2.1 b e).2.1⟩
      have hor := (HO4.out.below (b1 w4 _)).more (Q := fun _ => False) (y := ⟨yb, yn, ys⟩) (k := k') (n := n') (s := s') (x := 0) (ks' := []) (vs' := []) (A := none) (c := 0) (v' := .slice (some ⟨g3, 0, none⟩) (L + 1) c3) (show I64 yn ∧ ys.size ≤ maxLen from ⟨by have := HYB.out; unfold I64; omega, by have := HYB.out; unfold maxLen; omega⟩) (flat ⟨by have := HBE.out; unfold I64; omega, by have := HBE.out; unfold I64; omega, by unfold I64; omega, by have := HBE.out; unfold maxLen; omega⟩ _ _ none 0 (Nat.zero_le _)) (fun _ h => h.elim) hown2 hgrow (hat.imp (fun h => h.symm) (fun h => by rw [h]; simp [Value.ownBlock]))
      have hgb : ∀ b, (Value.slice (some ⟨g3, 0, none⟩) (L + 1) c3).ownBlock = some b → w.heap.size < b ∧ b ≠ M ∧ Plain w7 b := fun b e => by
        simp [Value.ownBlock] at e
        subst e
        have hpl : Plain w7 g3 := by
          rcases hown.2 with ⟨h, -⟩ | ⟨g, cap, cur, h, hlo, hgc, hr⟩
          · cases h
          · injection h with h1; injection h1 with h1; injection h1 with h1; subst h1; exact ⟨cur, IE, hgc⟩
        rcases hat with h | h
        · have := hOM _ h; exact ⟨by omega, by omega, hpl⟩
        · have := (Array.getElem?_eq_some_iff.1 HEV4.out).1; exact ⟨by omega, by omega, hpl⟩
      have HOR : Hid (OwR w7 (fun b => w.heap.size < b ∧ b ≠ M ∧ Plain w7 b) _ _ _ _) := Lib.hid (hor.mono fun b hb => hb.elim (fun h => h.elim (fun h => ⟨h.1.1, by have := h.1.2.1; omega, h.1.2.2.same ((hgrow.block b (by have := h.1.2.1; have := (Array.getElem?_eq_some_iff.1 HEV4.out).1; simp; omega) (fun e => h.2 e.symm)).trans (((b1 w4 _).block b (by have := h.1.2.1; have := (Array.getElem?_eq_some_iff.1 HEV4.out).1; omega)).trans (HS4.out b ⟨h.1.1, h.1.2.1⟩)))⟩) (fun h => h.elim)) (hgb b))
      have blk : ∀ (b : Nat) (o : Obj), w4.heap[b]? = some o → (b ≤ w.heap.size ∨ b = M) → w7.heap[b]? = some o := fun b o h hb => (hgrow.block b (by have := (Array.getElem?_eq_some_iff.1 h).1; simp; omega) (fun e => by have := hOM _ e.symm; omega)).trans (keepAlloc h)
      have HER7 := Lib.hid (blk _ _ HER4.out (by omega))
      have HEV7 := Lib.hid (blk _ _ HEV4.out (by omega))
      have HC7 : Hid (Cur w7 N) := Lib.hid (Cur.upto (HC4.out.below (b1 w4 _)) fun k hk => hgrow.block k (by have := HC4.out.lt; simp; omega) (fun e => by have := hOM _ e.symm; omega))
      have HG7 : Hid (w.grownBy w7 (some N)) := Lib.hid (grown_app HG4.out hgrow (fun b e => by have := hOM _ e; omega))
      have t7 : ∀ j, w7.cell? ⟨M, j, none⟩ = (#[.int .i64 k, .int .i64 n, .string s, .int .i64 x, .slice A L c] : Array Value)[j]? := (rowc HEV7.out).1
      have ff7 := (rowc HEV7.out).2
      obtain ⟨rr7, fr7⟩ := rowc HER7.out
      clear hown hown2 hOM hgrow hat hor hgb blk s34 s44 s44a
      refine hK.out _ _ ?_ (fun hHeld => ?_)
      · trivial
      clear hK K
      try simp only [Act.put, List.setIfInBounds_toArray]
      refine wpAnyH_take (i := 9) (v := ?_) rfl (by kernel_rfl) (by kernel_rfl) (by kernel_rfl) (fun _ _ _ h => h) (Or.inl ⟨by rfl, ?_⟩) (by assumption) ?_
      rotate_left
      · (intro w hSw; (try dsimp only at hSw); go_split_ands; go_simp; try (with_reducible rfl))
      try simp only [Act.put]
      refine wpAnyH_ready (rs := [10]) (by kernel_rfl) (by simp) ?_
      refine AllReadyH.cons rfl (fun K hK => ?_) AllReadyH.nil
      go_simp
      refine hK.out _ _ ?_ (fun hHeld => ?_)
      · trivial
      clear hK K
      try simp only [Act.put, List.setIfInBounds_toArray, List.set_cons_zero, List.set_cons_succ]
      refine wpAnyH_done (by kernel_rfl) ?_ _
      go_wp2_with (fail)
      generalize hwF : ((((((w7.setCell ⟨M, 4, none⟩ (.slice (some ⟨g3, 0, none⟩) (L + 1) c3)).setCell ⟨w.heap.size, 0, none⟩ (.int .i64 (k))).setCell ⟨w.heap.size, 1, none⟩ (.int .i64 (n))).setCell ⟨w.heap.size, 2, none⟩ (.string s)).setCell ⟨w.heap.size, 3, none⟩ (.int .i64 (x))).setCell ⟨w.heap.size, 4, none⟩ (.slice (some ⟨g3, 0, none⟩) (L + 1) c3)) = wF
      obtain ⟨rF, hD⟩ := DAny.of (k := k) (n := n) (x := x) (s := s) (ks := (ks ++ [⟨yb, yn, ys⟩])) (vs := (vs ++ [.mk k' n' s' 0 [] []])) (xs := _) (A := (some ⟨g3, 0, none⟩)) (L := (L + 1)) (c := c3) (by have := HBD.out; unfold I64; omega) (by rw [HL.out]; simp) (by have := HL.out; simp; omega) hN0 (Cur.upto HC7.out fun k hk => set_other (by omega)) (grown_set (by omega) HG7.out) ((set_other (by omega)).trans HER7.out) (HOR.out.keep fun b hb hl => set_other hb.2.1) (fun b hb => ⟨hb.1, hb.2.2.same (set_other hb.2.1)⟩) (by have := HBB.out; have := dB_le (d := 3) (by omega); have h2 := HYB.out; have h3 := HBE.out; rw [tots_snoc _ _ _ _ HO4.out.2.2.1, tot_mk]; simp only [List.length_append, List.length_cons, List.length_nil, tots]; show s.size + (vs.length + 1 + (tots ks vs + (ys.size + (s'.size + (0 + 0))))) ≤ 1000; omega) wF hwF.symm
      clear t7 ff7 rr7 fr7 hwF
      refine bodyPost_ret (v := .agg #[.int .i64 (k), .int .i64 (n), .string s, .int .i64 (x), .slice (some ⟨g3, 0, none⟩) (L + 1) c3]) ?_ rfl ?_
      · simp [results, Tryz.results81, go_sem, rF]
      · exact hD
    refine AllReadyH.cons rfl (fun K hK => ?_) AllReadyH.nil
    go_simp
    go_at_call 130
    refine (scalar N _ HC3.out).mono ?_
    rintro e w4 ⟨k', n', s', rfl, hbd, hC4, hg4⟩
    have HBE := Lib.hid hbd
    have HC4 := Lib.hid hC4
    have HG4 := Lib.hid (only_trans HG3.out hg4)
    have HER4 := Lib.hid (past hg4 HER3.out hN0)
    have HEV4 := Lib.hid (past hg4 HEV3.out hNM)
    have HS4 : Hid (∀ b, w.heap.size < b ∧ b < M → w4.heap[b]? = w1.heap[b]?) := Lib.hid (fun b hb => (hg4.block b (by have := (Array.getElem?_eq_some_iff.1 HEV3.out).1; omega) (ne_of (by omega))).trans (HS3.out b hb))
    have HO4 : Hid (OwR w4 (fun b => w.heap.size < b ∧ b < M ∧ Plain w1 b) (.slice A L c) xs ks vs) := Lib.hid (HO3.out.keep fun b hb hl => hg4.block b hl (ne_of (by omega)))
    have s44 : w4.cell? ⟨M, 4, none⟩ = some (.slice A L c) := (rowc HEV4.out).1 4
    have s44a : ∀ o, (w4.alloc o).cell? ⟨M, 4, none⟩ = some (.slice A L c) := fun o => (rowc (keepAlloc HEV4.out)).1 4
    have HOW : Hid (∀ o, (w4.alloc o).ownsRow 0 IE 8 (.slice A L c) L xs) := Lib.hid fun o => by
      have := (HO4.out.below (b1 w4 o)).1
      rwa [← HL.out] at this
    clear hbd hC4 hg4
    try go_wp2_with (fail)
    refine hK.out _ _ ?_ (fun hHeld => ?_)
    · trivial
    clear hK K
    try simp only [Act.put, List.setIfInBounds_toArray, List.set_cons_zero, List.set_cons_succ]
    refine wpAnyH_take (i := 6) (v := ?_) rfl (by kernel_rfl) (by kernel_rfl) (by kernel_rfl) (fun _ _ _ h => h) (Or.inl ⟨by rfl, ?_⟩) (by assumption) ?_
    rotate_left
    · (intro w hSw; (try dsimp only at hSw); go_split_ands; go_simp; try (with_reducible rfl))
    try simp only [Act.put, List.setIfInBounds_toArray]
    refine wpAnyH_ready (rs := [1, 7]) (by kernel_rfl) (by simp) ?_
    refine AllReadyH.cons rfl (fun K hK => ?_) ?_
    · go_simp
      refine hK.out _ _ ?_ (fun hHeld => ?_)
      · trivial
      clear hK K
      try simp only [Act.put, List.setIfInBounds_toArray, List.set_cons_zero, List.set_cons_succ]
      refine wpAnyH_ready (rs := [7]) (by kernel_rfl) (by simp) ?_
      refine AllReadyH.cons rfl (fun K hK => ?_) AllReadyH.nil
      go_simp
      refine hK.out _ _ ?_ (fun hHeld => ?_)
      · trivial
      clear hK K
      try simp only [Act.put, List.setIfInBounds_toArray, List.set_cons_zero, List.set_cons_succ]
      refine wpAnyH_ready (rs := [8]) (by kernel_rfl) (by simp) ?_
      refine AllReadyH.cons rfl (fun K hK => ?_) AllReadyH.nil
      refine step_append_lies _ (by rfl) _ _ 30 (by rfl) 0 IE i0 _ 8 96 Tryz.underlying30 HII.out HZZ.out.1 HZZ.out.2.1 HZZ.out.2.2 rfl (by decide) (.slice A L c) L xs (by rfl) (HOW.out _) ⟨w4.heap.size, 0, none⟩ 1 1 [.bool yb, .int .i64 yn, .string ys, .int .i64 k', .int .i64 n', .string s', .int .i64 0, .slice none 0 0] (by rfl) (by rfl) (eight_new w4 _ _ _ _ _ _ _ _ _) (eight_one _ _ _ _ _ _ _ _ _ _) (by omega) (by unfold maxLen; omega) (by omega) (by omega) (w4.heap.size + 1) (by simp) ?_
      intro g3 c3 w7 hown hgrow hat hlt3
      have hown2 : w7.ownsRow 0 IE 8 (.slice (some ⟨g3, 0, none⟩) (L + 1) c3) (vs.length + 1) (xs ++ [.bool yb, .int .i64 yn, .string ys, .int .i64 k', .int .i64 n', .string s', .int .i64 0, .slice none 0 0]) := by
        rw [← HL.out]
        exact hown
      have hOM : ∀ b, (Value.slice A L c).ownBlock = some b → w.heap.size < b ∧ b < M := fun b e => ⟨(HO4.out.2.1 b e).1, (HO4.out.2.1 b e).2.1⟩
      have hor := (HO4.out.below (b1 w4 _)).more (Q := fun _ => False) (y := ⟨yb, yn, ys⟩) (k := k') (n := n') (s := s') (x := 0) (ks' := []) (vs' := []) (A := none) (c := 0) (v' := .slice (some ⟨g3, 0, none⟩) (L + 1) c3) (show I64 yn ∧ ys.size ≤ maxLen from ⟨by have := HYB.out; unfold I64; omega, by have := HYB.out; unfold maxLen; omega⟩) (flat ⟨by have := HBE.out; unfold I64; omega, by have := HBE.out; unfold I64; omega, by unfold I64; omega, by have := HBE.out; unfold maxLen; omega⟩ _ _ none 0 (Nat.zero_le _)) (fun _ h => h.elim) hown2 hgrow (hat.imp (fun h => h.symm) (fun h => by rw [h]; simp [Value.ownBlock]))
      have hgb : ∀ b, (Value.slice (some ⟨g3, 0, none⟩) (L + 1) c3).ownBlock = some b → w.heap.size < b ∧ b ≠ M ∧ Plain w7 b := fun b e => by
        simp [Value.ownBlock] at e
        subst e
        have hpl : Plain w7 g3 := by
          rcases hown.2 with ⟨h, -⟩ | ⟨g, cap, cur, h, hlo, hgc, hr⟩
          · cases h
          · injection h with h1; injection h1 with h1; injection h1 with h1; subst h1; exact ⟨cur, IE, hgc⟩
        rcases hat with h | h
        · have := hOM _ h; exact ⟨by omega, by omega, hpl⟩
        · have := (Array.getElem?_eq_some_iff.1 HEV4.out).1; exact ⟨by omega, by omega, hpl⟩
      have HOR : Hid (OwR w7 (fun b => w.heap.size < b ∧ b ≠ M ∧ Plain w7 b) _ _ _ _) := Lib.hid (hor.mono fun b hb => hb.elim (fun h => h.elim (fun h => ⟨h.1.1, by have := h.1.2.1; omega, h.1.2.2.same ((hgrow.block b (by have := h.1.2.1; have := (Array.getElem?_eq_some_iff.1 HEV4.out).1; simp; omega) (fun e => h.2 e.symm)).trans (((b1 w4 _).block b (by have := h.1.2.1; have := (Array.getElem?_eq_some_iff.1 HEV4.out).1; omega)).trans (HS4.out b ⟨h.1.1, h.1.2.1⟩)))⟩) (fun h => h.elim)) (hgb b))
      have blk : ∀ (b : Nat) (o : Obj), w4.heap[b]? = some o → (b ≤ w.heap.size ∨ b = M) → w7.heap[b]? = some o := fun b o h hb => (hgrow.block b (by have := (Array.getElem?_eq_some_iff.1 h).1; simp; omega) (fun e => by have := hOM _ e.symm; omega)).trans (keepAlloc h)
      have HER7 := Lib.hid (blk _ _ HER4.out (by omega))
      have HEV7 := Lib.hid (blk _ _ HEV4.out (by omega))
      have HC7 : Hid (Cur w7 N) := Lib.hid (Cur.upto (HC4.out.below (b1 w4 _)) fun k hk => hgrow.block k (by have := HC4.out.lt; simp; omega) (fun e => by have := hOM _ e.symm; omega))
      have HG7 : Hid (w.grownBy w7 (some N)) := Lib.hid (grown_app HG4.out hgrow (fun b e => by have := hOM _ e; omega))
      have t7 : ∀ j, w7.cell? ⟨M, j, none⟩ = (#[.int .i64 k, .int .i64 n, .string s, .int .i64 x, .slice A L c] : Array Value)[j]? := (rowc HEV7.out).1
      have ff7 := (rowc HEV7.out).2
      obtain ⟨rr7, fr7⟩ := rowc HER7.out
      clear hown hown2 hOM hgrow hat hor hgb blk s34 s44 s44a
      refine hK.out _ _ ?_ (fun hHeld => ?_)
      · trivial
      clear hK K
      try simp only [Act.put, List.setIfInBounds_toArray]
      refine wpAnyH_take (i := 9) (v := ?_) rfl (by kernel_rfl) (by kernel_rfl) (by kernel_rfl) (fun _ _ _ h => h) (Or.inl ⟨by rfl, ?_⟩) (by assumption) ?_
      rotate_left
      · (intro w hSw; (try dsimp only at hSw); go_split_ands; go_simp; try (with_reducible rfl))
      try simp only [Act.put]
      refine wpAnyH_ready (rs := [10]) (by kernel_rfl) (by simp) ?_
      refine AllReadyH.cons rfl (fun K hK => ?_) AllReadyH.nil
      go_simp
      refine hK.out _ _ ?_ (fun hHeld => ?_)
      · trivial
      clear hK K
      try simp only [Act.put, List.setIfInBounds_toArray, List.set_cons_zero, List.set_cons_succ]
      refine wpAnyH_done (by kernel_rfl) ?_ _
      go_wp2_with (fail)
      generalize hwF : ((((((w7.setCell ⟨M, 4, none⟩ (.slice (some ⟨g3, 0, none⟩) (L + 1) c3)).setCell ⟨w.heap.size, 0, none⟩ (.int .i64 (k))).setCell ⟨w.heap.size, 1, none⟩ (.int .i64 (n))).setCell ⟨w.heap.size, 2, none⟩ (.string s)).setCell ⟨w.heap.size, 3, none⟩ (.int .i64 (x))).setCell ⟨w.heap.size, 4, none⟩ (.slice (some ⟨g3, 0, none⟩) (L + 1) c3)) = wF
      obtain ⟨rF, hD⟩ := DAny.of (k := k) (n := n) (x := x) (s := s) (ks := (ks ++ [⟨yb, yn, ys⟩])) (vs := (vs ++ [.mk k' n' s' 0 [] []])) (xs := _) (A := (some ⟨g3, 0, none⟩)) (L := (L + 1)) (c := c3) (by have := HBD.out; unfold I64; omega) (by rw [HL.out]; simp) (by have := HL.out; simp; omega) hN0 (Cur.upto HC7.out fun k hk => set_other (by omega)) (grown_set (by omega) HG7.out) ((set_other (by omega)).trans HER7.out) (HOR.out.keep fun b hb hl => set_other hb.2.1) (fun b hb => ⟨hb.1, hb.2.2.same (set_other hb.2.1)⟩) (by have := HBB.out; have := dB_le (d := 3) (by omega); have h2 := HYB.out; have h3 := HBE.out; rw [tots_snoc _ _ _ _ HO4.out.2.2.1, tot_mk]; simp only [List.length_append, List.length_cons, List.length_nil, tots]; show s.size + (vs.length + 1 + (tots ks vs + (ys.size + (s'.size + (0 + 0))))) ≤ 1000; omega) wF hwF.symm
      clear t7 ff7 rr7 fr7 hwF
      refine bodyPost_ret (v := .agg #[.int .i64 (k), .int .i64 (n), .string s, .int .i64 (x), .slice (some ⟨g3, 0, none⟩) (L + 1) c3]) ?_ rfl ?_
      · simp [results, Tryz.results81, go_sem, rF]
      · exact hD
    refine AllReadyH.cons rfl (fun K hK => ?_) AllReadyH.nil
    go_simp
    refine hK.out _ _ ?_ (fun hHeld => ?_)
    · trivial
    clear hK K
    try simp only [Act.put, List.setIfInBounds_toArray, List.set_cons_zero, List.set_cons_succ]
    refine wpAnyH_ready (rs := [1]) (by kernel_rfl) (by simp) ?_
    refine AllReadyH.cons rfl (fun K hK => ?_) AllReadyH.nil
    go_simp
    refine hK.out _ _ ?_ (fun hHeld => ?_)
    · trivial
    clear hK K
    try simp only [Act.put, List.setIfInBounds_toArray, List.set_cons_zero, List.set_cons_succ]
    refine wpAnyH_ready (rs := [8]) (by kernel_rfl) (by simp) ?_
    refine AllReadyH.cons rfl (fun K hK => ?_) AllReadyH.nil
    refine step_append_lies _ (by rfl) _ _ 30 (by rfl) 0 IE i0 _ 8 96 Tryz.underlying30 HII.out HZZ.out.1 HZZ.out.2.1 HZZ.out.2.2 rfl (by decide) (.slice A L c) L xs (by rfl) (HOW.out _) ⟨w4.heap.size, 0, none⟩ 1 1 [.bool yb, .int .i64 yn, .string ys, .int .i64 k', .int .i64 n', .string s', .int .i64 0, .slice none 0 0] (by rfl) (by rfl) (eight_new w4 _ _ _ _ _ _ _ _ _) (eight_one _ _ _ _ _ _ _ _ _ _) (by omega) (by unfold maxLen; omega) (by omega) (by omega) (w4.heap.size + 1) (by simp) ?_
    intro g3 c3 w7 hown hgrow hat hlt3
    have hown2 : w7.ownsRow 0 IE 8 (.slice (some ⟨g3, 0, none⟩) (L + 1) c3) (vs.length + 1) (xs ++ [.bool yb, .int .i64 yn, .string ys, .int .i64 k', .int .i64 n', .string s', .int .i64 0, .slice none 0 0]) := by
      rw [← HL.out]
      exact hown
    have hOM : ∀ b, (Value.slice A L c).ownBlock = some b → w.heap.size < b ∧ b < M := fun b e => ⟨(HO4.out.2.1 b e).1, (HO4.out.2.1 b e).2.1⟩
    have hor := (HO4.out.below (b1 w4 _)).more (Q := fun _ => False) (y := ⟨yb, yn, ys⟩) (k := k') (n := n') (s := s') (x := 0) (ks' := []) (vs' := []) (A := none) (c := 0) (v' := .slice (some ⟨g3, 0, none⟩) (L + 1) c3) (show I64 yn ∧ ys.size ≤ maxLen from ⟨by have := HYB.out; unfold I64; omega, by have := HYB.out; unfold maxLen; omega⟩) (flat ⟨by have := HBE.out; unfold I64; omega, by have := HBE.out; unfold I64; omega, by unfold I64; omega, by have := HBE.out; unfold maxLen; omega⟩ _ _ none 0 (Nat.zero_le _)) (fun _ h => h.elim) hown2 hgrow (hat.imp (fun h => h.symm) (fun h => by rw [h]; simp [Value.ownBlock]))
    have hgb : ∀ b, (Value.slice (some ⟨g3, 0, none⟩) (L + 1) c3).ownBlock = some b → w.heap.size < b ∧ b ≠ M ∧ Plain w7 b := fun b e => by
      simp [Value.ownBlock] at e
      subst e
      have hpl : Plain w7 g3 := by
        rcases hown.2 with ⟨h, -⟩ | ⟨g, cap, cur, h, hlo, hgc, hr⟩
        · cases h
        · injection h with h1; injection h1 with h1; injection h1 with h1; subst h1; exact ⟨cur, IE, hgc⟩
      rcases hat with h | h
      · have := hOM _ h; exact ⟨by omega, by omega, hpl⟩
      · have := (Array.getElem?_eq_some_iff.1 HEV4.out).1; exact ⟨by omega, by omega, hpl⟩
    have HOR : Hid (OwR w7 (fun b => w.heap.size < b ∧ b ≠ M ∧ Plain w7 b) _ _ _ _) := Lib.hid (hor.mono fun b hb => hb.elim (fun h => h.elim (fun h => ⟨h.1.1, by have := h.1.2.1; omega, h.1.2.2.same ((hgrow.block b (by have := h.1.2.1; have := (Array.getElem?_eq_some_iff.1 HEV4.out).1; simp; omega) (fun e => h.2 e.symm)).trans (((b1 w4 _).block b (by have := h.1.2.1; have := (Array.getElem?_eq_some_iff.1 HEV4.out).1; omega)).trans (HS4.out b ⟨h.1.1, h.1.2.1⟩)))⟩) (fun h => h.elim)) (hgb b))
    have blk : ∀ (b : Nat) (o : Obj), w4.heap[b]? = some o → (b ≤ w.heap.size ∨ b = M) → w7.heap[b]? = some o := fun b o h hb => (hgrow.block b (by have := (Array.getElem?_eq_some_iff.1 h).1; simp; omega) (fun e => by have := hOM _ e.symm; omega)).trans (keepAlloc h)
    have HER7 := Lib.hid (blk _ _ HER4.out (by omega))
    have HEV7 := Lib.hid (blk _ _ HEV4.out (by omega))
    have HC7 : Hid (Cur w7 N) := Lib.hid (Cur.upto (HC4.out.below (b1 w4 _)) fun k hk => hgrow.block k (by have := HC4.out.lt; simp; omega) (fun e => by have := hOM _ e.symm; omega))
    have HG7 : Hid (w.grownBy w7 (some N)) := Lib.hid (grown_app HG4.out hgrow (fun b e => by have := hOM _ e; omega))
    have t7 : ∀ j, w7.cell? ⟨M, j, none⟩ = (#[.int .i64 k, .int .i64 n, .string s, .int .i64 x, .slice A L c] : Array Value)[j]? := (rowc HEV7.out).1
    have ff7 := (rowc HEV7.out).2
    obtain ⟨rr7, fr7⟩ := rowc HER7.out
    clear hown hown2 hOM hgrow hat hor hgb blk s34 s44 s44a
    refine hK.out _ _ ?_ (fun hHeld => ?_)
    · trivial
    clear hK K
    try simp only [Act.put, List.setIfInBounds_toArray]
    refine wpAnyH_take (i := 9) (v := ?_) rfl (by kernel_rfl) (by kernel_rfl) (by kernel_rfl) (fun _ _ _ h => h) (Or.inl ⟨by rfl, ?_⟩) (by assumption) ?_
    rotate_left
    · (intro w hSw; (try dsimp only at hSw); go_split_ands; go_simp; try (with_reducible rfl))
    try simp only [Act.put]
    refine wpAnyH_ready (rs := [10]) (by kernel_rfl) (by simp) ?_
    refine AllReadyH.cons rfl (fun K hK => ?_) AllReadyH.nil
    go_simp
    refine hK.out _ _ ?_ (fun hHeld => ?_)
    · trivial
    clear hK K
    try simp only [Act.put, List.setIfInBounds_toArray, List.set_cons_zero, List.set_cons_succ]
    refine wpAnyH_done (by kernel_rfl) ?_ _
    go_wp2_with (fail)
    generalize hwF : ((((((w7.setCell ⟨M, 4, none⟩ (.slice (some ⟨g3, 0, none⟩) (L + 1) c3)).setCell ⟨w.heap.size, 0, none⟩ (.int .i64 (k))).setCell ⟨w.heap.size, 1, none⟩ (.int .i64 (n))).setCell ⟨w.heap.size, 2, none⟩ (.string s)).setCell ⟨w.heap.size, 3, none⟩ (.int .i64 (x))).setCell ⟨w.heap.size, 4, none⟩ (.slice (some ⟨g3, 0, none⟩) (L + 1) c3)) = wF
    obtain ⟨rF, hD⟩ := DAny.of (k := k) (n := n) (x := x) (s := s) (ks := (ks ++ [⟨yb, yn, ys⟩])) (vs := (vs ++ [.mk k' n' s' 0 [] []])) (xs := _) (A := (some ⟨g3, 0, none⟩)) (L := (L + 1)) (c := c3) (by have := HBD.out; unfold I64; omega) (by rw [HL.out]; simp) (by have := HL.out; simp; omega) hN0 (Cur.upto HC7.out fun k hk => set_other (by omega)) (grown_set (by omega) HG7.out) ((set_other (by omega)).trans HER7.out) (HOR.out.keep fun b hb hl => set_other hb.2.1) (fun b hb => ⟨hb.1, hb.2.2.same (set_other hb.2.1)⟩) (by have := HBB.out; have := dB_le (d := 3) (by omega); have h2 := HYB.out; have h3 := HBE.out; rw [tots_snoc _ _ _ _ HO4.out.2.2.1, tot_mk]; simp only [List.length_append, List.length_cons, List.length_nil, tots]; show s.size + (vs.length + 1 + (tots ks vs + (ys.size + (s'.size + (0 + 0))))) ≤ 1000; omega) wF hwF.symm
    clear t7 ff7 rr7 fr7 hwF
    refine bodyPost_ret (v := .agg #[.int .i64 (k), .int .i64 (n), .string s, .int .i64 (x), .slice (some ⟨g3, 0, none⟩) (L + 1) c3]) ?_ rfl ?_
    · simp [results, Tryz.results81, go_sem, rF]
    · exact hD
  by_cases h4 : q = 4
  · subst h4
    go_wp2_with (fail)
    refine (below N 3 (by omega) _ HC2.out).mono ?_
    rintro e w3 ⟨z, rfl, z0, z1, hC3, hg3⟩
    have HC3 := Lib.hid hC3
    have HG3 := Lib.hid (only_trans HG2.out hg3)
    have HER3 := Lib.hid (past hg3 HER2.out hN0)
    have HEV3 := Lib.hid (past hg3 HEV2.out hNM)
    have HS3 : Hid (∀ b, w.heap.size < b ∧ b < M → w3.heap[b]? = w1.heap[b]?) := Lib.hid (fun b hb => (hg3.block b (by have := (Array.getElem?_eq_some_iff.1 HEV2.out).1; omega) (ne_of (by omega))).trans (HS2.out b hb))
    have HO3 : Hid (OwR w3 (fun b => w.heap.size < b ∧ b < M ∧ Plain w1 b) (.slice A L c) xs ks vs) := Lib.hid (HO2.out.keep fun b hb hl => hg3.block b hl (ne_of (by omega)))
    obtain ⟨r3, f3⟩ := rowc HEV3.out
    obtain ⟨rr3, fr3⟩ := rowc HER3.out
    clear hC3 hg3 r2 f2 rr2 fr2 HC2 HG2 HER2 HEV2 HO2
    go_wp2_with (fail)
    refine (below N 3 (by omega) _ HC3.out).mono ?_
    rintro e w4 ⟨z', rfl, z0', z1', hC4, hg4⟩
    have HC4 := Lib.hid hC4
    have HG4 := Lib.hid (only_trans HG3.out hg4)
    have HER4 := Lib.hid (past hg4 HER3.out hN0)
    have HEV4 := Lib.hid (past hg4 HEV3.out hNM)
    obtain ⟨r4, f4⟩ := rowc HEV4.out
    obtain ⟨rr4, fr4⟩ := rowc HER4.out
    clear hC4 hg4 r3 f3 rr3 fr3
    go_wp2_with (fail)
    obtain ⟨eF, oF, gF⟩ := put5 (.int .i64 (6 + z)) (.int .i64 z') (.string ⟨#[]⟩) (.int .i64 0) (.slice none 0 0) HEV4.out
    generalize hw9 : (((((w4.setCell ⟨M, 0, none⟩ (.int .i64 (6 + z))).setCell ⟨M, 1, none⟩ (.int .i64 z')).setCell ⟨M, 2, none⟩ (.string ⟨#[]⟩)).setCell ⟨M, 3, none⟩ (.int .i64 0)).setCell ⟨M, 4, none⟩ (.slice none 0 0)) = w9 at *
    have HC9 : Hid (Cur w9 N) := Lib.hid (Cur.upto HC4.out fun k hk => oF k (by omega))
    have HG9 := Lib.hid (gF w N (by omega) HG4.out)
    have HER9 := Lib.hid ((oF _ (by omega)).trans HER4.out)
    clear oF gF r4 f4 rr4 fr4
    generalize hwF : ((((((w9).setCell ⟨w.heap.size, 0, none⟩ (.int .i64 (6 + z))).setCell ⟨w.heap.size, 1, none⟩ (.int .i64 (z'))).setCell ⟨w.heap.size, 2, none⟩ (.string ⟨#[]⟩)).setCell ⟨w.heap.size, 3, none⟩ (.int .i64 (0))).setCell ⟨w.heap.size, 4, none⟩ (.slice none 0 0)) = wF
    obtain ⟨rF, hD⟩ := DAny.of (k := 6 + z) (n := z') (x := 0) (s := ⟨#[]⟩) (ks := []) (vs := []) (xs := []) (A := none) (L := 0) (c := 0) (by unfold I64; refine ⟨by omega, by omega, by omega, by omega, ?_⟩; show (0 : Nat) ≤ 10; omega) rfl (by simp) hN0 HC9.out HG9.out HER9.out (OwR.nil _ (fun b => False)) (fun b hb => hb.elim) (by have h : tots [] [] = 0 := (by simp [tots]); show 0 + (0 + tots [] []) ≤ 1000; omega) wF hwF.symm
    clear hwF
    refine bodyPost_ret (v := .agg #[.int .i64 (6 + z), .int .i64 (z'), .string ⟨#[]⟩, .int .i64 (0), .slice none 0 0]) ?_ rfl ?_
    · simp [results, Tryz.results81, go_sem, rF]
    · exact hD
  go_wp2_with (fail)
  generalize hwF : ((((((w2).setCell ⟨w.heap.size, 0, none⟩ (.int .i64 (k))).setCell ⟨w.heap.size, 1, none⟩ (.int .i64 (n))).setCell ⟨w.heap.size, 2, none⟩ (.string s)).setCell ⟨w.heap.size, 3, none⟩ (.int .i64 (x))).setCell ⟨w.heap.size, 4, none⟩ (.slice A L c)) = wF
  obtain ⟨rF, hD⟩ := DAny.of (k := k) (n := n) (x := x) (s := s) (ks := ks) (vs := vs) (xs := xs) (A := A) (L := L) (c := c) (by have := HBD.out; unfold I64; omega) HL.out (by have := HL.out; omega) hN0 HC2.out HG2.out HER2.out HO2.out (fun b hb => ⟨hb.1, hb.2.2.same (HS2.out b ⟨hb.1, hb.2.1⟩)⟩) (by have := HBB.out; have := dB_le (d := 3) (by omega); omega) wF hwF.symm
  clear r2 f2 rr2 fr2 hwF
  refine bodyPost_ret (v := .agg #[.int .i64 (k), .int .i64 (n), .string s, .int .i64 (x), .slice A L c]) ?_ rfl ?_
  · simp [results, Tryz.results81, go_sem, rF]
  · exact hD

end Go.Proofs.YtdglmnmalfpipaaGreatDoor.draw

