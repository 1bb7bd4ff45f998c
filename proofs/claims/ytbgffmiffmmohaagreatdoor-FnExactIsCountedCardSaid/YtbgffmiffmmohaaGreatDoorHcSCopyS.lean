/-
  The model's copy of a value.
  Conditions: those that each theorem names.
-/
import Derived.Test.YtbgffmiffmmohaaGreatDoorHcB4
import Derived.Test.YtbgffmiffmmohaaGreatDoorHcSHeld
import Derived.Deep.AppendLies
import Derived.Deep.RegionHeld3
namespace Go.Proofs.YtbgffmiffmmohaaGreatDoor.tree
open Go.ChangeShapes Go.WideShapes Go.ChangeAt Go.RowKit
set_option linter.unusedVariables false

def CyS (t : Tr) : Prop := cnt t ≤ 1000000000 → ∀ (w : World) (S : Nat → Prop) (v : Value), TIn w S t v → Calls Tryz.prog 83 #[v] w (ToQ w t)

theorem cnts_len : ∀ vs : List Tr, vs.length ≤ cnts vs
  | [] => by simp [cnts_nil]
  | t :: vs => by
    have := cnts_len vs
    obtain ⟨k, n, s, x, ks, us⟩ := t
    rw [cnts_cons', cnt_mk', List.length_cons]
    omega

set_option maxHeartbeats 2000000 in
theorem l5Copy : ∀ t, CyS t := Tr.ind fun k n s x ks vs ih hT w S v h => by
  obtain ⟨A, c, rfl, hk, hin⟩ := h.out
  rw [cnt_mk'] at hT
  have hlen := cnts_len vs
  have hm2 : vs.length ≤ maxLen := hin.2.1
  have hkl := Lib.hid hin.1
  have HK := Lib.hid hk
  have HI := Lib.hid hin
  have HT := Lib.hid hT
  obtain ⟨L, HL⟩ : ∃ L, Hid (L = vs.length) := ⟨_, Lib.hid rfl⟩
  rw [← HL.out] at hlen hm2 ⊢
  have hL9 : L ≤ 1000000000 := by omega
  clear h hin hk hT hlen hm2
  go_enter Tryz.func83, Tryz.ntmps83
  go_wp2_with (fail)
  obtain ⟨i0, hi, hz⟩ := ie_info
  have HII := Lib.hid hi
  have HZZ := Lib.hid hz
  clear hi hz
  obtain ⟨N, HN⟩ : ∃ N, Hid (N = w.heap.size) := ⟨_, Lib.hid rfl⟩
  go_loopg [4] (L + 1) (fun gk i wr => ∃ (j : Nat) (A1 : Option Addr) (c1 : Nat), i = .int .i64 j ∧ gk + j = L + 1 ∧ j ≤ L ∧ (∃ cz, Hid (wr.heap[w.heap.size + 1]? = some (.cells #[.int .i64 0, .int .i64 0, .string ⟨#[]⟩, .int .i64 0, .slice none 0 0] cz (0, 0)))) ∧ Hid (wr.heap[w.heap.size]? = some (.cells #[.int .i64 k, .int .i64 n, .string s, .int .i64 x, .slice A L c] IV (0, 0))) ∧
    Hid (wr.heap[w.heap.size + 1 + 1]? = some (.cells #[.int .i64 k, .int .i64 n, .string s, .int .i64 x, .slice A1 j c1] IV (0, 0))) ∧ Hid (ORow wr (w.heap.size + 1 + 1 + 1) (.slice A1 j c1) (ks.take j) (vs.take j)) ∧ Below w.heap.size w wr)
  case atStart =>
    obtain ⟨a0, a1, a2, az, ab⟩ := al3 w #[.int .i64 k, .int .i64 n, .string s, .int .i64 x, .slice A L c] #[.int .i64 0, .int .i64 0, .string ⟨#[]⟩, .int .i64 0, .slice none 0 0] #[.int .i64 k, .int .i64 n, .string s, .int .i64 x, .slice none 0 0] IV IV IV
    exact ⟨0, none, 0, rfl, by omega, by omega, ⟨_, Lib.hid a1⟩, Lib.hid a0, Lib.hid a2, Lib.hid (by simpa using ORow.nil _ _), ab⟩
  case round =>
    obtain ⟨j, A1, c1, rfl, hgj, hjL, ⟨cz, HE1⟩, HE0, HE2, HR, hb⟩ := hrel
    have HB := Lib.hid hb
    clear hb
    obtain ⟨r0, -⟩ := rowc HE0.out
    obtain ⟨r1, f1⟩ := rowc HE1.out
    obtain ⟨r2, f2⟩ := rowc HE2.out
    by_cases hlt : j < L
    · obtain ⟨a, y, k', n', s', x', ks', vs', A', c', rfl, hS, hky, hvs, ht, hyb, hkb, hin', hcell0⟩ := HI.out.item (i := j) (by rw [← HL.out]; exact hlt)
      have hab : (a.add (j * 8)).block < w.heap.size := World.block_lt_of_cell? _ _ hcell0.c0
      have hcell := hcell0.below HB.out
      have hcl := cnts_lt hvs
      have hT := HT.out
      have ihj : ∀ w', Below wr.heap.size wr w' → Calls Tryz.prog 83 #[vV k' n' s' x' A' vs'.length c'] w' (ToQ w' (.mk k' n' s' x' ks' vs')) := fun w' hb' => ih _ (List.mem_of_getElem? hvs) (by omega) w' S _ (ht.below' (bs HB.out hb'))
      obtain ⟨L1, HL1⟩ : ∃ L1, Hid (L1 = vs'.length) := ⟨_, Lib.hid rfl⟩
      rw [← HL1.out] at ihj hcell
      obtain ⟨xs, hx⟩ := HR.out
      have HX := Lib.hid hx
      have HLJ : Hid ((vs.take j).length = j) := Lib.hid (by rw [List.length_take, ← HL.out]; omega)
      have HSZ : Hid (w.heap.size + 1 + 1 + 1 ≤ wr.heap.size) := Lib.hid (Array.getElem?_eq_some_iff.1 HE2.out).1
      have IHJ := Lib.hid ihj
      have HC := Lib.hid hcell
      have HYB := Lib.hid hyb
      have HKY := Lib.hid hky
      have HVS := Lib.hid hvs
      obtain ⟨yb, yn, ys⟩ := y
      obtain ⟨p0, p1, p2, p3, p4, p5, p6, p7⟩ := hcell
      simp only at p0 p1 p2
      have HAB := Lib.hid hab
      have HNE : Hid (∀ p : Addr, p.block < w.heap.size + 1 → (⟨w.heap.size + 1 + 1, 4, none⟩ : Addr) ≠ p) := Lib.hid (addr_far (Nat.lt_succ_of_lt (Nat.lt_succ_self _)) 4)
      clear ihj hyb hky hvs ht hkb hin' hS hcl hT r1 f1 hx hcell0 hab
      go_wp2_with (fail)
      refine wp_region_held_drew (S := (fun w' => w'.cell? ⟨w.heap.size, 4, none⟩ = some (.slice (some a) L c) ∧ w'.cell? (a.add (j * 8)) = some (.bool yb) ∧ w'.cell? ⟨(a.add (j * 8)).block, (a.add (j * 8)).off + 1, none⟩ = some (.int .i64 yn) ∧ w'.cell? ⟨(a.add (j * 8)).block, (a.add (j * 8)).off + 2, none⟩ = some (.string ys) ∧ w'.cell? ⟨(a.add (j * 8)).block, (a.add (j * 8)).off + 3, none⟩ = some (.int .i64 k') ∧ w'.cell? ⟨(a.add (j * 8)).block, (a.add (j * 8)).off + 4, none⟩ = some (.int .i64 n') ∧ w'.cell? ⟨(a.add (j * 8)).block, (a.add (j * 8)).off + 5, none⟩ = some (.string s') ∧ w'.cell? ⟨(a.add (j * 8)).block, (a.add (j * 8)).off + 6, none⟩ = some (.int .i64 x') ∧ w'.cell? ⟨(a.add (j * 8)).block, (a.add (j * 8)).off + 7, none⟩ = some (.slice A' L1 c'))) (by kernel_rfl) ?_ (fun hHeld => ?_)
      · (try dsimp only) <;> go_keep
      refine wpAnyH_take (i := 0) (v := ?_) rfl (by kernel_rfl) (by kernel_rfl) (by kernel_rfl) (fun _ _ _ h => h) (Or.inl ⟨by rfl, ?_⟩) (by assumption) ?_
      rotate_left
      · (intro w hSw; (try dsimp only at hSw); go_split_ands; go_simp; try (with_reducible rfl))
      try simp only [Act.put, List.setIfInBounds_toArray]
      refine wpAnyH_take (i := 2) (v := ?_) rfl (by kernel_rfl) (by kernel_rfl) (by kernel_rfl) (fun _ _ _ h => h) (Or.inl ⟨by rfl, ?_⟩) (by assumption) ?_
      rotate_left
      · (intro w hSw; (try dsimp only at hSw); go_split_ands; go_simp; try (with_reducible rfl))
      try simp only [Act.put]
      refine wpAnyH_take (i := 3) (v := ?_) rfl (by kernel_rfl) (by kernel_rfl) (by kernel_rfl) (fun _ _ _ h => h) (Or.inl ⟨by rfl, ?_⟩) (by assumption) ?_
      rotate_left
      · (intro w hSw; (try dsimp only at hSw); go_split_ands; go_simp; try (with_reducible rfl))
      try simp only [Act.put]
      refine wpAnyH_take (i := 4) (v := ?_) rfl (by kernel_rfl) (by kernel_rfl) (by kernel_rfl) (fun _ _ _ h => h) (Or.inl ⟨by rfl, ?_⟩) (by assumption) ?_
      rotate_left
      · (intro w hSw; (try dsimp only at hSw); go_split_ands; go_simp; try (with_reducible rfl))
      try simp only [Act.put]
      refine wpAnyH_take (i := 5) (v := ?_) rfl (by kernel_rfl) (by kernel_rfl) (by kernel_rfl) (fun _ _ _ h => h) (Or.inl ⟨by rfl, ?_⟩) (by assumption) ?_
      rotate_left
      · (intro w hSw; (try dsimp only at hSw); go_split_ands; go_simp; try (with_reducible rfl))
      try simp only [Act.put]
      refine wpAnyH_take (i := 6) (v := ?_) rfl (by kernel_rfl) (by kernel_rfl) (by kernel_rfl) (fun _ _ _ h => h) (Or.inl ⟨by rfl, ?_⟩) (by assumption) ?_
      rotate_left
      · (intro w hSw; (try dsimp only at hSw); go_split_ands; go_simp; try (with_reducible rfl))
      try simp only [Act.put]
      refine wpAnyH_take (i := 7) (v := ?_) rfl (by kernel_rfl) (by kernel_rfl) (by kernel_rfl) (fun _ _ _ h => h) (Or.inl ⟨by rfl, ?_⟩) (by assumption) ?_
      rotate_left
      · (intro w hSw; (try dsimp only at hSw); go_split_ands; go_simp; try (with_reducible rfl))
      try simp only [Act.put]
      refine wpAnyH_take (i := 8) (v := ?_) rfl (by kernel_rfl) (by kernel_rfl) (by kernel_rfl) (fun _ _ _ h => h) (Or.inl ⟨by rfl, ?_⟩) (by assumption) ?_
      rotate_left
      · (intro w hSw; (try dsimp only at hSw); go_split_ands; go_simp; try (with_reducible rfl))
      try simp only [Act.put]
      refine wpAnyH_take (i := 9) (v := ?_) rfl (by kernel_rfl) (by kernel_rfl) (by kernel_rfl) (fun _ _ _ h => h) (Or.inl ⟨by rfl, ?_⟩) (by assumption) ?_
      rotate_left
      · (intro w hSw; (try dsimp only at hSw); go_split_ands; go_simp; try (with_reducible rfl))
      try simp only [Act.put]
      refine wpAnyH_take (i := 10) (v := ?_) rfl (by kernel_rfl) (by kernel_rfl) (by kernel_rfl) (fun _ _ _ h => h) (Or.inl ⟨by rfl, ?_⟩) (by assumption) ?_
      rotate_left
      · (intro w hSw; (try dsimp only at hSw); go_split_ands; go_simp; try (with_reducible rfl))
      try simp only [Act.put]
      refine wpAnyH_take (i := 11) (v := ?_) rfl (by kernel_rfl) (by kernel_rfl) (by kernel_rfl) (fun _ _ _ h => h) (Or.inl ⟨by rfl, ?_⟩) (by assumption) ?_
      rotate_left
      · (intro w hSw; (try dsimp only at hSw); go_split_ands; go_simp; try (with_reducible rfl))
      try simp only [Act.put]
      refine wpAnyH_take (i := 12) (v := ?_) rfl (by kernel_rfl) (by kernel_rfl) (by kernel_rfl) (fun _ _ _ h => h) (Or.inl ⟨by rfl, ?_⟩) (by assumption) ?_
      rotate_left
      · (intro w hSw; (try dsimp only at hSw); go_split_ands; go_simp; try (with_reducible rfl))
      try simp only [Act.put]
      refine wpAnyH_take (i := 13) (v := ?_) rfl (by kernel_rfl) (by kernel_rfl) (by kernel_rfl) (fun _ _ _ h => h) (Or.inl ⟨by rfl, ?_⟩) (by assumption) ?_
      rotate_left
      · (intro w hSw; (try dsimp only at hSw); go_split_ands; go_simp; try (with_reducible rfl))
      try simp only [Act.put]
      refine wpAnyH_ready (rs := [1, 14]) (by kernel_rfl) (by simp) ?_
      refine AllReadyH.cons rfl (fun K hK => ?_) ?_
      · go_simp
        refine hK.out _ _ ?_ (fun hHeld => ?_)
        · (first | go_keep | (go_split_ands; refine ⟨?_, ?_, ?_, ?_, ?_, ?_, ?_, ?_, ?_⟩ <;> (rw [World.cell?_setCell_other _ _ _ _ (HNE.out _ (by first | (show w.heap.size < _; omega) | exact Nat.lt_succ_of_lt HAB.out))]; assumption)))
        clear hK K
        try simp only [Act.put, List.setIfInBounds_toArray, List.set_cons_zero, List.set_cons_succ]
        refine wpAnyH_ready (rs := [14]) (by kernel_rfl) (by simp) ?_
        refine AllReadyH.cons rfl (fun K hK => ?_) AllReadyH.nil
        go_simp
        go_at_call 83
        refine (IHJ.out _ (Below.refl wr.heap.size wr).drew).mono ?_
        rintro e w1 ⟨v1, rfl, hv1, hb1⟩
        obtain ⟨A2, c2, rfl, hk2, hin2⟩ := hv1.out
        have HV1 := Lib.hid hv1
        rw [← HL1.out]
        have HB1 := Lib.hid (bs ((Below.refl wr.heap.size wr).drew) hb1)
        obtain ⟨q0, q1, q2, q3, q4, q5, q6, q7⟩ := HC.out.below HB1.out
        simp only at q0 q1 q2
        obtain ⟨s0, -⟩ := rowc (carry HB1.out HE0.out)
        have s04 : w1.cell? ⟨w.heap.size, 4, none⟩ = some (.slice (some a) L c) := s0 4
        have s24 : w1.cell? ⟨w.heap.size + 1 + 1, 4, none⟩ = some (.slice A1 j c1) := (rowc (carry HB1.out HE2.out)).1 4
        have s24a : ∀ o, (w1.alloc o).cell? ⟨w.heap.size + 1 + 1, 4, none⟩ = some (.slice A1 j c1) := fun o => (rowc (keepAlloc (carry HB1.out HE2.out))).1 4
        have HOW : Hid (∀ o, (w1.alloc o).ownsRow (w.heap.size + 1 + 1 + 1) IE 8 (.slice A1 j c1) j xs) := Lib.hid fun o => by
          have := ((HX.out.below HB1.out).below (b1 w1 o)).1
          rwa [HLJ.out] at this
        clear hb1 hv1 hk2 hin2 s0
        try go_wp2_with (fail)
        refine hK.out _ _ ?_ (fun hHeld => ?_)
        · (first | go_keep | (go_split_ands; refine ⟨?_, ?_, ?_, ?_, ?_, ?_, ?_, ?_, ?_⟩ <;> (rw [World.cell?_setCell_other _ _ _ _ (HNE.out _ (by first | (show w.heap.size < _; omega) | exact Nat.lt_succ_of_lt HAB.out))]; assumption)))
        clear hK K
        try simp only [Act.put, List.setIfInBounds_toArray, List.set_cons_zero, List.set_cons_succ]
        refine wpAnyH_take (i := 15) (v := ?_) rfl (by kernel_rfl) (by kernel_rfl) (by kernel_rfl) (fun _ _ _ h => h) (Or.inl ⟨by rfl, ?_⟩) (by assumption) ?_
        rotate_left
        · (intro w hSw; (try dsimp only at hSw); go_split_ands; go_simp; try (with_reducible rfl))
        try simp only [Act.put, List.setIfInBounds_toArray]
        refine wpAnyH_ready (rs := [16]) (by kernel_rfl) (by simp) ?_
        refine AllReadyH.cons rfl (fun K hK => ?_) AllReadyH.nil
        go_simp
        refine hK.out _ _ ?_ (fun hHeld => ?_)
        · (first | go_keep | (go_split_ands; refine ⟨?_, ?_, ?_, ?_, ?_, ?_, ?_, ?_, ?_⟩ <;> (rw [World.cell?_setCell_other _ _ _ _ (HNE.out _ (by first | (show w.heap.size < _; omega) | exact Nat.lt_succ_of_lt HAB.out))]; assumption)))
        clear hK K
        try simp only [Act.put, List.setIfInBounds_toArray, List.set_cons_zero, List.set_cons_succ]
        refine wpAnyH_ready (rs := [17]) (by kernel_rfl) (by simp) ?_
        refine AllReadyH.cons rfl (fun K hK => ?_) AllReadyH.nil
        refine step_append_lies _ (by rfl) _ _ 30 (by rfl) (w.heap.size + 1 + 1 + 1) IE i0 _ 8 96 Tryz.underlying30 HII.out HZZ.out.1 HZZ.out.2.1 HZZ.out.2.2 rfl (by decide) (.slice A1 j c1) j xs (by rfl) (HOW.out _) ⟨w1.heap.size, 0, none⟩ 1 1 [.bool yb, .int .i64 yn, .string ys, .int .i64 k', .int .i64 n', .string s', .int .i64 x', .slice A2 L1 c2] (by rfl) (by rfl) (eight_new w1 _ _ _ _ _ _ _ _ _) (eight_one _ _ _ _ _ _ _ _ _ _) (by omega) (by unfold maxLen; omega) (by omega) (by have := HB1.out.size; have := HB.out.size; have := HSZ.out; simp; omega) (w1.heap.size + 1) (by simp) ?_
        intro g3 c3 w2 hown hgrow hat hlt3
        have hown2 : w2.ownsRow (w.heap.size + 1 + 1 + 1) IE 8 (.slice (some ⟨g3, 0, none⟩) (j + 1) c3) ((vs.take j).length + 1) (xs ++ [.bool yb, .int .i64 yn, .string ys, .int .i64 k', .int .i64 n', .string s', .int .i64 x', .slice A2 vs'.length c2]) := by
          rw [HLJ.out, ← HL1.out]
          exact hown
        have hor := ((HX.out.below HB1.out).below (b1 w1 _)).more (y := ⟨yb, yn, ys⟩) (k := k') (n := n') (s := s') (x := x') (ks' := ks') (vs' := vs') (A := A2) (c := c2) (v' := .slice (some ⟨g3, 0, none⟩) (j + 1) c3) HYB.out ((HV1.out.stays (S' := SX (w.heap.size + 1 + 1 + 1) (.slice A1 j c1)) (fun b hb => ⟨Nat.le_trans HSZ.out hb, fun e => by have := (HR.out.block b e).2; have hb2 : wr.heap.size ≤ b := hb; omega⟩) (fun b _ hlt => rfl)).below' (b1 w1 _)) hown2 hgrow (hat.imp (fun h => h.symm) (fun h => by rw [h]; simp [Value.ownBlock]))
        have HOR := Lib.hid hor
        have hsz1 : w.heap.size + 1 + 1 + 1 ≤ w1.heap.size := Nat.le_trans HSZ.out HB1.out.size
        have HB2 : Hid (Below w.heap.size w w2) := Lib.hid (((bs HB.out HB1.out).alloc (by omega) _).grown hgrow (by simp; omega) (fun k hk => by have := (HR.out.block k hk).1; omega))
        have blk : ∀ (b : Nat) (o : Obj), wr.heap[b]? = some o → b < w.heap.size + 1 + 1 + 1 → w2.heap[b]? = some o := fun b o h hb => (hgrow.block b (by simp; omega) (fun e => by have := (HR.out.block _ e.symm).1; omega)).trans (keepAlloc (carry HB1.out h))
        have HF0 := Lib.hid (blk _ _ HE0.out (by omega))
        have HF1 := Lib.hid (blk _ _ HE1.out (by omega))
        have HF2 := Lib.hid (blk _ _ HE2.out (by omega))
        have far : ∀ (p : Addr) (u : Value), w1.cell? p = some u → p.block < w.heap.size + 1 + 1 + 1 → w2.cell? p = some u := fun p u hu hlt => by
          rw [hgrow.cell_far p (by simp; have := World.block_lt_of_cell? _ _ hu; omega) (fun e => by have := (HR.out.block _ e.symm).1; omega)]
          exact cell_stays (fun hlt => (b1 w1 _).block _ hlt) hu
        have t04 := far _ _ s04 (by show w.heap.size < _; omega)
        have t24 := far _ _ s24 (by show w.heap.size + 1 + 1 < _; omega)
        have t0 := far _ _ q0 (Nat.lt_of_lt_of_le HAB.out (by omega))
        have t1 := far _ _ q1 (Nat.lt_of_lt_of_le HAB.out (by omega))
        have t2 := far _ _ q2 (Nat.lt_of_lt_of_le HAB.out (by omega))
        have t3 := far _ _ q3 (Nat.lt_of_lt_of_le HAB.out (by omega))
        have t4 := far _ _ q4 (Nat.lt_of_lt_of_le HAB.out (by omega))
        have t5 := far _ _ q5 (Nat.lt_of_lt_of_le HAB.out (by omega))
        have t6 := far _ _ q6 (Nat.lt_of_lt_of_le HAB.out (by omega))
        have t7 := far _ _ q7 (Nat.lt_of_lt_of_le HAB.out (by omega))
        have ff2 : w2.frozen? ⟨w.heap.size + 1 + 1, 4, none⟩ = false := (hgrow.frozen_far _ (by simp; have := HB1.out.size; have := HSZ.out; omega) (fun e => by have := (HR.out.block _ e.symm).1; simp at this; omega)).trans ((rowc (keepAlloc (carry HB1.out HE2.out))).2 4)
        clear hown hown2 hgrow hat hor far blk
        refine hK.out _ _ ?_ (fun hHeld => ?_)
        · (first | go_keep | (go_split_ands; refine ⟨?_, ?_, ?_, ?_, ?_, ?_, ?_, ?_, ?_⟩ <;> (rw [World.cell?_setCell_other _ _ _ _ (HNE.out _ (by first | (show w.heap.size < _; omega) | exact Nat.lt_succ_of_lt HAB.out))]; assumption)))
        clear hK K
        try simp only [Act.put, List.setIfInBounds_toArray]
        refine wpAnyH_take (i := 18) (v := ?_) rfl (by kernel_rfl) (by kernel_rfl) (by kernel_rfl) (fun _ _ _ h => h) (Or.inl ⟨by rfl, ?_⟩) (by assumption) ?_
        rotate_left
        · (intro w hSw; (try dsimp only at hSw); go_split_ands; go_simp; try (with_reducible rfl))
        try simp only [Act.put]
        refine wpAnyH_ready (rs := [19]) (by kernel_rfl) (by simp) ?_
        refine AllReadyH.cons rfl (fun K hK => ?_) AllReadyH.nil
        go_simp
        refine hK.out _ _ ?_ (fun hHeld => ?_)
        · (first | go_keep | (go_split_ands; refine ⟨?_, ?_, ?_, ?_, ?_, ?_, ?_, ?_, ?_⟩ <;> (rw [World.cell?_setCell_other _ _ _ _ (HNE.out _ (by first | (show w.heap.size < _; omega) | exact Nat.lt_succ_of_lt HAB.out))]; assumption)))
        clear hK K
        try simp only [Act.put, List.setIfInBounds_toArray, List.set_cons_zero, List.set_cons_succ]
        refine wpAnyH_done (by kernel_rfl) ?_ _
        go_wp2_with (fail)
        go_roundg (L - j)
        case rel =>
          have hr := HOR.out
          rw [show ks.take j ++ [(⟨yb, yn, ys⟩ : Ky)] = ks.take (j + 1) by
            obtain ⟨hj, e⟩ := List.getElem?_eq_some_iff.1 HKY.out
            rw [List.take_succ_eq_append_getElem hj, e], show vs.take j ++ [Tr.mk k' n' s' x' ks' vs'] = vs.take (j + 1) by
            obtain ⟨hj, e⟩ := List.getElem?_eq_some_iff.1 HVS.out
            rw [List.take_succ_eq_append_getElem hj, e]] at hr
          exact ⟨j + 1, _, _, by go_num, by omega, by omega, ⟨cz, Lib.hid ((set_other (by omega)).trans HF1.out)⟩, Lib.hid ((set_other (by omega)).trans HF0.out), Lib.hid (set_heap HF2.out 4 _), Lib.hid (hr.above fun b hb _ => set_other (by omega)), HB2.out.setCell (by simp; omega) _⟩
        case measure => omega
      refine AllReadyH.cons rfl (fun K hK => ?_) AllReadyH.nil
      go_simp
      go_at_call 83
      refine (IHJ.out _ (Below.refl wr.heap.size wr).drew).mono ?_
      rintro e w1 ⟨v1, rfl, hv1, hb1⟩
      obtain ⟨A2, c2, rfl, hk2, hin2⟩ := hv1.out
      have HV1 := Lib.hid hv1
      rw [← HL1.out]
      have HB1 := Lib.hid (bs ((Below.refl wr.heap.size wr).drew) hb1)
      obtain ⟨q0, q1, q2, q3, q4, q5, q6, q7⟩ := HC.out.below HB1.out
      simp only at q0 q1 q2
      obtain ⟨s0, -⟩ := rowc (carry HB1.out HE0.out)
      have s04 : w1.cell? ⟨w.heap.size, 4, none⟩ = some (.slice (some a) L c) := s0 4
      have s24 : w1.cell? ⟨w.heap.size + 1 + 1, 4, none⟩ = some (.slice A1 j c1) := (rowc (carry HB1.out HE2.out)).1 4
      have s24a : ∀ o, (w1.alloc o).cell? ⟨w.heap.size + 1 + 1, 4, none⟩ = some (.slice A1 j c1) := fun o => (rowc (keepAlloc (carry HB1.out HE2.out))).1 4
      have HOW : Hid (∀ o, (w1.alloc o).ownsRow (w.heap.size + 1 + 1 + 1) IE 8 (.slice A1 j c1) j xs) := Lib.hid fun o => by
        have := ((HX.out.below HB1.out).below (b1 w1 o)).1
        rwa [HLJ.out] at this
      clear hb1 hv1 hk2 hin2 s0
      try go_wp2_with (fail)
      refine hK.out _ _ ?_ (fun hHeld => ?_)
      · (first | go_keep | (go_split_ands; refine ⟨?_, ?_, ?_, ?_, ?_, ?_, ?_, ?_, ?_⟩ <;> (rw [World.cell?_setCell_other _ _ _ _ (HNE.out _ (by first | (show w.heap.size < _; omega) | exact Nat.lt_succ_of_lt HAB.out))]; assumption)))
      clear hK K
      try simp only [Act.put, List.setIfInBounds_toArray, List.set_cons_zero, List.set_cons_succ]
      refine wpAnyH_take (i := 15) (v := ?_) rfl (by kernel_rfl) (by kernel_rfl) (by kernel_rfl) (fun _ _ _ h => h) (Or.inl ⟨by rfl, ?_⟩) (by assumption) ?_
      rotate_left
      · (intro w hSw; (try dsimp only at hSw); go_split_ands; go_simp; try (with_reducible rfl))
      try simp only [Act.put, List.setIfInBounds_toArray]
      refine wpAnyH_ready (rs := [1, 16]) (by kernel_rfl) (by simp) ?_
      refine AllReadyH.cons rfl (fun K hK => ?_) ?_
      · go_simp
        refine hK.out _ _ ?_ (fun hHeld => ?_)
        · (first | go_keep | (go_split_ands; refine ⟨?_, ?_, ?_, ?_, ?_, ?_, ?_, ?_, ?_⟩ <;> (rw [World.cell?_setCell_other _ _ _ _ (HNE.out _ (by first | (show w.heap.size < _; omega) | exact Nat.lt_succ_of_lt HAB.out))]; assumption)))
        clear hK K
        try simp only [Act.put, List.setIfInBounds_toArray, List.set_cons_zero, List.set_cons_succ]
        refine wpAnyH_ready (rs := [16]) (by kernel_rfl) (by simp) ?_
        refine AllReadyH.cons rfl (fun K hK => ?_) AllReadyH.nil
        go_simp
        refine hK.out _ _ ?_ (fun hHeld => ?_)
        · (first | go_keep | (go_split_ands; refine ⟨?_, ?_, ?_, ?_, ?_, ?_, ?_, ?_, ?_⟩ <;> (rw [World.cell?_setCell_other _ _ _ _ (HNE.out _ (by first | (show w.heap.size < _; omega) | exact Nat.lt_succ_of_lt HAB.out))]; assumption)))
        clear hK K
        try simp only [Act.put, List.setIfInBounds_toArray, List.set_cons_zero, List.set_cons_succ]
        refine wpAnyH_ready (rs := [17]) (by kernel_rfl) (by simp) ?_
        refine AllReadyH.cons rfl (fun K hK => ?_) AllReadyH.nil
        refine step_append_lies _ (by rfl) _ _ 30 (by rfl) (w.heap.size + 1 + 1 + 1) IE i0 _ 8 96 Tryz.underlying30 HII.out HZZ.out.1 HZZ.out.2.1 HZZ.out.2.2 rfl (by decide) (.slice A1 j c1) j xs (by rfl) (HOW.out _) ⟨w1.heap.size, 0, none⟩ 1 1 [.bool yb, .int .i64 yn, .string ys, .int .i64 k', .int .i64 n', .string s', .int .i64 x', .slice A2 L1 c2] (by rfl) (by rfl) (eight_new w1 _ _ _ _ _ _ _ _ _) (eight_one _ _ _ _ _ _ _ _ _ _) (by omega) (by unfold maxLen; omega) (by omega) (by have := HB1.out.size; have := HB.out.size; have := HSZ.out; simp; omega) (w1.heap.size + 1) (by simp) ?_
        intro g3 c3 w2 hown hgrow hat hlt3
        have hown2 : w2.ownsRow (w.heap.size + 1 + 1 + 1) IE 8 (.slice (some ⟨g3, 0, none⟩) (j + 1) c3) ((vs.take j).length + 1) (xs ++ [.bool yb, .int .i64 yn, .string ys, .int .i64 k', .int .i64 n', .string s', .int .i64 x', .slice A2 vs'.length c2]) := by
          rw [HLJ.out, ← HL1.out]
          exact hown
        have hor := ((HX.out.below HB1.out).below (b1 w1 _)).more (y := ⟨yb, yn, ys⟩) (k := k') (n := n') (s := s') (x := x') (ks' := ks') (vs' := vs') (A := A2) (c := c2) (v' := .slice (some ⟨g3, 0, none⟩) (j + 1) c3) HYB.out ((HV1.out.stays (S' := SX (w.heap.size + 1 + 1 + 1) (.slice A1 j c1)) (fun b hb => ⟨Nat.le_trans HSZ.out hb, fun e => by have := (HR.out.block b e).2; have hb2 : wr.heap.size ≤ b := hb; omega⟩) (fun b _ hlt => rfl)).below' (b1 w1 _)) hown2 hgrow (hat.imp (fun h => h.symm) (fun h => by rw [h]; simp [Value.ownBlock]))
        have HOR := Lib.hid hor
        have hsz1 : w.heap.size + 1 + 1 + 1 ≤ w1.heap.size := Nat.le_trans HSZ.out HB1.out.size
        have HB2 : Hid (Below w.heap.size w w2) := Lib.hid (((bs HB.out HB1.out).alloc (by omega) _).grown hgrow (by simp; omega) (fun k hk => by have := (HR.out.block k hk).1; omega))
        have blk : ∀ (b : Nat) (o : Obj), wr.heap[b]? = some o → b < w.heap.size + 1 + 1 + 1 → w2.heap[b]? = some o := fun b o h hb => (hgrow.block b (by simp; omega) (fun e => by have := (HR.out.block _ e.symm).1; omega)).trans (keepAlloc (carry HB1.out h))
        have HF0 := Lib.hid (blk _ _ HE0.out (by omega))
        have HF1 := Lib.hid (blk _ _ HE1.out (by omega))
        have HF2 := Lib.hid (blk _ _ HE2.out (by omega))
        have far : ∀ (p : Addr) (u : Value), w1.cell? p = some u → p.block < w.heap.size + 1 + 1 + 1 → w2.cell? p = some u := fun p u hu hlt => by
          rw [hgrow.cell_far p (by simp; have := World.block_lt_of_cell? _ _ hu; omega) (fun e => by have := (HR.out.block _ e.symm).1; omega)]
          exact cell_stays (fun hlt => (b1 w1 _).block _ hlt) hu
        have t04 := far _ _ s04 (by show w.heap.size < _; omega)
        have t24 := far _ _ s24 (by show w.heap.size + 1 + 1 < _; omega)
        have t0 := far _ _ q0 (Nat.lt_of_lt_of_le HAB.out (by omega))
        have t1 := far _ _ q1 (Nat.lt_of_lt_of_le HAB.out (by omega))
        have t2 := far _ _ q2 (Nat.lt_of_lt_of_le HAB.out (by omega))
        have t3 := far _ _ q3 (Nat.lt_of_lt_of_le HAB.out (by omega))
        have t4 := far _ _ q4 (Nat.lt_of_lt_of_le HAB.out (by omega))
        have t5 := far _ _ q5 (Nat.lt_of_lt_of_le HAB.out (by omega))
        have t6 := far _ _ q6 (Nat.lt_of_lt_of_le HAB.out (by omega))
        have t7 := far _ _ q7 (Nat.lt_of_lt_of_le HAB.out (by omega))
        have ff2 : w2.frozen? ⟨w.heap.size + 1 + 1, 4, none⟩ = false := (hgrow.frozen_far _ (by simp; have := HB1.out.size; have := HSZ.out; omega) (fun e => by have := (HR.out.block _ e.symm).1; simp at this; omega)).trans ((rowc (keepAlloc (carry HB1.out HE2.out))).2 4)
        clear hown hown2 hgrow hat hor far blk
        refine hK.out _ _ ?_ (fun hHeld => ?_)
        · (first | go_keep | (go_split_ands; refine ⟨?_, ?_, ?_, ?_, ?_, ?_, ?_, ?_, ?_⟩ <;> (rw [World.cell?_setCell_other _ _ _ _ (HNE.out _ (by first | (show w.heap.size < _; omega) | exact Nat.lt_succ_of_lt HAB.out))]; assumption)))
        clear hK K
        try simp only [Act.put, List.setIfInBounds_toArray]
        refine wpAnyH_take (i := 18) (v := ?_) rfl (by kernel_rfl) (by kernel_rfl) (by kernel_rfl) (fun _ _ _ h => h) (Or.inl ⟨by rfl, ?_⟩) (by assumption) ?_
        rotate_left
        · (intro w hSw; (try dsimp only at hSw); go_split_ands; go_simp; try (with_reducible rfl))
        try simp only [Act.put]
        refine wpAnyH_ready (rs := [19]) (by kernel_rfl) (by simp) ?_
        refine AllReadyH.cons rfl (fun K hK => ?_) AllReadyH.nil
        go_simp
        refine hK.out _ _ ?_ (fun hHeld => ?_)
        · (first | go_keep | (go_split_ands; refine ⟨?_, ?_, ?_, ?_, ?_, ?_, ?_, ?_, ?_⟩ <;> (rw [World.cell?_setCell_other _ _ _ _ (HNE.out _ (by first | (show w.heap.size < _; omega) | exact Nat.lt_succ_of_lt HAB.out))]; assumption)))
        clear hK K
        try simp only [Act.put, List.setIfInBounds_toArray, List.set_cons_zero, List.set_cons_succ]
        refine wpAnyH_done (by kernel_rfl) ?_ _
        go_wp2_with (fail)
        go_roundg (L - j)
        case rel =>
          have hr := HOR.out
          rw [show ks.take j ++ [(⟨yb, yn, ys⟩ : Ky)] = ks.take (j + 1) by
            obtain ⟨hj, e⟩ := List.getElem?_eq_some_iff.1 HKY.out
            rw [List.take_succ_eq_append_getElem hj, e], show vs.take j ++ [Tr.mk k' n' s' x' ks' vs'] = vs.take (j + 1) by
            obtain ⟨hj, e⟩ := List.getElem?_eq_some_iff.1 HVS.out
            rw [List.take_succ_eq_append_getElem hj, e]] at hr
          exact ⟨j + 1, _, _, by go_num, by omega, by omega, ⟨cz, Lib.hid ((set_other (by omega)).trans HF1.out)⟩, Lib.hid ((set_other (by omega)).trans HF0.out), Lib.hid (set_heap HF2.out 4 _), Lib.hid (hr.above fun b hb _ => set_other (by omega)), HB2.out.setCell (by simp; omega) _⟩
        case measure => omega
      refine AllReadyH.cons rfl (fun K hK => ?_) AllReadyH.nil
      go_simp
      refine hK.out _ _ ?_ (fun hHeld => ?_)
      · (first | go_keep | (go_split_ands; refine ⟨?_, ?_, ?_, ?_, ?_, ?_, ?_, ?_, ?_⟩ <;> (rw [World.cell?_setCell_other _ _ _ _ (HNE.out _ (by first | (show w.heap.size < _; omega) | exact Nat.lt_succ_of_lt HAB.out))]; assumption)))
      clear hK K
      try simp only [Act.put, List.setIfInBounds_toArray, List.set_cons_zero, List.set_cons_succ]
      refine wpAnyH_ready (rs := [1]) (by kernel_rfl) (by simp) ?_
      refine AllReadyH.cons rfl (fun K hK => ?_) AllReadyH.nil
      go_simp
      refine hK.out _ _ ?_ (fun hHeld => ?_)
      · (first | go_keep | (go_split_ands; refine ⟨?_, ?_, ?_, ?_, ?_, ?_, ?_, ?_, ?_⟩ <;> (rw [World.cell?_setCell_other _ _ _ _ (HNE.out _ (by first | (show w.heap.size < _; omega) | exact Nat.lt_succ_of_lt HAB.out))]; assumption)))
      clear hK K
      try simp only [Act.put, List.setIfInBounds_toArray, List.set_cons_zero, List.set_cons_succ]
      refine wpAnyH_ready (rs := [17]) (by kernel_rfl) (by simp) ?_
      refine AllReadyH.cons rfl (fun K hK => ?_) AllReadyH.nil
      refine step_append_lies _ (by rfl) _ _ 30 (by rfl) (w.heap.size + 1 + 1 + 1) IE i0 _ 8 96 Tryz.underlying30 HII.out HZZ.out.1 HZZ.out.2.1 HZZ.out.2.2 rfl (by decide) (.slice A1 j c1) j xs (by rfl) (HOW.out _) ⟨w1.heap.size, 0, none⟩ 1 1 [.bool yb, .int .i64 yn, .string ys, .int .i64 k', .int .i64 n', .string s', .int .i64 x', .slice A2 L1 c2] (by rfl) (by rfl) (eight_new w1 _ _ _ _ _ _ _ _ _) (eight_one _ _ _ _ _ _ _ _ _ _) (by omega) (by unfold maxLen; omega) (by omega) (by have := HB1.out.size; have := HB.out.size; have := HSZ.out; simp; omega) (w1.heap.size + 1) (by simp) ?_
      intro g3 c3 w2 hown hgrow hat hlt3
      have hown2 : w2.ownsRow (w.heap.size + 1 + 1 + 1) IE 8 (.slice (some ⟨g3, 0, none⟩) (j + 1) c3) ((vs.take j).length + 1) (xs ++ [.bool yb, .int .i64 yn, .string ys, .int .i64 k', .int .i64 n', .string s', .int .i64 x', .slice A2 vs'.length c2]) := by
        rw [HLJ.out, ← HL1.out]
        exact hown
      have hor := ((HX.out.below HB1.out).below (b1 w1 _)).more (y := ⟨yb, yn, ys⟩) (k := k') (n := n') (s := s') (x := x') (ks' := ks') (vs' := vs') (A := A2) (c := c2) (v' := .slice (some ⟨g3, 0, none⟩) (j + 1) c3) HYB.out ((HV1.out.stays (S' := SX (w.heap.size + 1 + 1 + 1) (.slice A1 j c1)) (fun b hb => ⟨Nat.le_trans HSZ.out hb, fun e => by have := (HR.out.block b e).2; have hb2 : wr.heap.size ≤ b := hb; omega⟩) (fun b _ hlt => rfl)).below' (b1 w1 _)) hown2 hgrow (hat.imp (fun h => h.symm) (fun h => by rw [h]; simp [Value.ownBlock]))
      have HOR := Lib.hid hor
      have hsz1 : w.heap.size + 1 + 1 + 1 ≤ w1.heap.size := Nat.le_trans HSZ.out HB1.out.size
      have HB2 : Hid (Below w.heap.size w w2) := Lib.hid (((bs HB.out HB1.out).alloc (by omega) _).grown hgrow (by simp; omega) (fun k hk => by have := (HR.out.block k hk).1; omega))
      have blk : ∀ (b : Nat) (o : Obj), wr.heap[b]? = some o → b < w.heap.size + 1 + 1 + 1 → w2.heap[b]? = some o := fun b o h hb => (hgrow.block b (by simp; omega) (fun e => by have := (HR.out.block _ e.symm).1; omega)).trans (keepAlloc (carry HB1.out h))
      have HF0 := Lib.hid (blk _ _ HE0.out (by omega))
      have HF1 := Lib.hid (blk _ _ HE1.out (by omega))
      have HF2 := Lib.hid (blk _ _ HE2.out (by omega))
      have far : ∀ (p : Addr) (u : Value), w1.cell? p = some u → p.block < w.heap.size + 1 + 1 + 1 → w2.cell? p = some u := fun p u hu hlt => by
        rw [hgrow.cell_far p (by simp; have := World.block_lt_of_cell? _ _ hu; omega) (fun e => by have := (HR.out.block _ e.symm).1; omega)]
        exact cell_stays (fun hlt => (b1 w1 _).block _ hlt) hu
      have t04 := far _ _ s04 (by show w.heap.size < _; omega)
      have t24 := far _ _ s24 (by show w.heap.size + 1 + 1 < _; omega)
      have t0 := far _ _ q0 (Nat.lt_of_lt_of_le HAB.out (by omega))
      have t1 := far _ _ q1 (Nat.lt_of_lt_of_le HAB.out (by omega))
      have t2 := far _ _ q2 (Nat.lt_of_lt_of_le HAB.out (by omega))
      have t3 := far _ _ q3 (Nat.lt_of_lt_of_le HAB.out (by omega))
      have t4 := far _ _ q4 (Nat.lt_of_lt_of_le HAB.out (by omega))
      have t5 := far _ _ q5 (Nat.lt_of_lt_of_le HAB.out (by omega))
      have t6 := far _ _ q6 (Nat.lt_of_lt_of_le HAB.out (by omega))
      have t7 := far _ _ q7 (Nat.lt_of_lt_of_le HAB.out (by omega))
      have ff2 : w2.frozen? ⟨w.heap.size + 1 + 1, 4, none⟩ = false := (hgrow.frozen_far _ (by simp; have := HB1.out.size; have := HSZ.out; omega) (fun e => by have := (HR.out.block _ e.symm).1; simp at this; omega)).trans ((rowc (keepAlloc (carry HB1.out HE2.out))).2 4)
      clear hown hown2 hgrow hat hor far blk
      refine hK.out _ _ ?_ (fun hHeld => ?_)
      · (first | go_keep | (go_split_ands; refine ⟨?_, ?_, ?_, ?_, ?_, ?_, ?_, ?_, ?_⟩ <;> (rw [World.cell?_setCell_other _ _ _ _ (HNE.out _ (by first | (show w.heap.size < _; omega) | exact Nat.lt_succ_of_lt HAB.out))]; assumption)))
      clear hK K
      try simp only [Act.put, List.setIfInBounds_toArray]
      refine wpAnyH_take (i := 18) (v := ?_) rfl (by kernel_rfl) (by kernel_rfl) (by kernel_rfl) (fun _ _ _ h => h) (Or.inl ⟨by rfl, ?_⟩) (by assumption) ?_
      rotate_left
      · (intro w hSw; (try dsimp only at hSw); go_split_ands; go_simp; try (with_reducible rfl))
      try simp only [Act.put]
      refine wpAnyH_ready (rs := [19]) (by kernel_rfl) (by simp) ?_
      refine AllReadyH.cons rfl (fun K hK => ?_) AllReadyH.nil
      go_simp
      refine hK.out _ _ ?_ (fun hHeld => ?_)
      · (first | go_keep | (go_split_ands; refine ⟨?_, ?_, ?_, ?_, ?_, ?_, ?_, ?_, ?_⟩ <;> (rw [World.cell?_setCell_other _ _ _ _ (HNE.out _ (by first | (show w.heap.size < _; omega) | exact Nat.lt_succ_of_lt HAB.out))]; assumption)))
      clear hK K
      try simp only [Act.put, List.setIfInBounds_toArray, List.set_cons_zero, List.set_cons_succ]
      refine wpAnyH_done (by kernel_rfl) ?_ _
      go_wp2_with (fail)
      go_roundg (L - j)
      case rel =>
        have hr := HOR.out
        rw [show ks.take j ++ [(⟨yb, yn, ys⟩ : Ky)] = ks.take (j + 1) by
          obtain ⟨hj, e⟩ := List.getElem?_eq_some_iff.1 HKY.out
          rw [List.take_succ_eq_append_getElem hj, e], show vs.take j ++ [Tr.mk k' n' s' x' ks' vs'] = vs.take (j + 1) by
          obtain ⟨hj, e⟩ := List.getElem?_eq_some_iff.1 HVS.out
          rw [List.take_succ_eq_append_getElem hj, e]] at hr
        exact ⟨j + 1, _, _, by go_num, by omega, by omega, ⟨cz, Lib.hid ((set_other (by omega)).trans HF1.out)⟩, Lib.hid ((set_other (by omega)).trans HF0.out), Lib.hid (set_heap HF2.out 4 _), Lib.hid (hr.above fun b hb _ => set_other (by omega)), HB2.out.setCell (by simp; omega) _⟩
      case measure => omega
    · obtain rfl : j = L := by omega
      obtain ⟨A3, c3, e3, hc3, hi3⟩ := HR.out.isin (by rw [List.length_take]; unfold maxLen; omega)
      have hl3 : (vs.take j).length = j := by rw [List.length_take, ← HL.out]; omega
      rw [hl3] at e3 hc3
      simp only [Value.slice.injEq, true_and] at e3
      obtain ⟨rfl, rfl⟩ := e3
      have e4 : vs.take j = vs := by rw [HL.out, List.take_length]
      have e5 : ks.take j = ks := by rw [HL.out, ← hkl.out, List.take_length]
      rw [e4, e5] at hi3
      have HI3 := Lib.hid hi3
      have HC3 := Lib.hid hc3
      clear hi3 hc3 hl3 e4 e5
      go_wp2_with (fail)
      refine bodyPost_ret (v := vV k n s x A1 j c1) (by simp [results, Tryz.results83, go_sem, r1]) rfl ⟨_, rfl, ?_, ?_⟩
      · have base : TIn wr (fun b => w.heap.size + 1 + 1 + 1 ≤ b) (.mk k n s x ks vs) (vV k n s x A1 j c1) := by
          have := TIn.of (k := k) (n := n) (s := s) (x := x) c1 HK.out HI3.out (by rw [← HL.out]; exact HC3.out)
          rwa [← HL.out] at this
        exact base.stays (fun b hb => by show w.heap.size ≤ b; have hb' : w.heap.size + 1 + 1 + 1 ≤ b := hb; omega) (fun b hb _ => by
          have hb' : w.heap.size + 1 + 1 + 1 ≤ b := hb
          have q1 : b ≠ w.heap.size + 1 := by omega
          simp only [set_other q1])
      · have hB := HB.out
        iterate 5 refine Below.setCell ?_ (by first | (simp; done) | (simp; omega)) _
        exact hB

end Go.Proofs.YtbgffmiffmmohaaGreatDoor.tree

