/-
  What the texts behind this one use: 2 parts of one proof.
  Conditions: those that each theorem names.
-/
import Derived.Test.YtdglmnmalfpipaaDoorSAB3
import Derived.Test.YtdglmnmalfpipaaDoorSAB4
import Derived.Test.YtdglmnmalfpipaaDoorSASValidS
import Derived.Test.YtdglmnmalfpipaaDoorSAB2
import Derived.Test.YtdglmnmalfpipaaDoorSASIsPlain
import Derived.Deep.LoopGhost
import Derived.Deep.DeepCutAuto
import Derived.Deep.RegionHeld3
import Derived.Deep.RegionWith
/-
  The model's text of a value, and Serialize of the model.
  Conditions: those that each theorem names.
-/
namespace Go.Proofs.YtdglmnmalfpipaaDoor.tree
open Go.ChangeShapes Go.WideShapes Go.ChangeAt Go.RowKit
set_option linter.unusedVariables false

set_option maxHeartbeats 1000000 in
set_option maxRecDepth 100000 in
theorem leaf_s (k n : Int) (s : ByteArray) (x : Int) (A : Option Addr) (L c : Nat) (hk : 0 ≤ k ∧ k ≤ 3) (hn : I64 n) (hs : s.size ≤ 1000000000) (w : World) :
    Calls Tryd.prog 17 #[vV k n s x A L c] w (GivesQ w (.string (bz (lf k n s)))) := by
  have FM := Lib.hid (fun w' => fmt.specFormat n hn.1 hn.2 w')
  have FS := Lib.hid (fun w' => fmt.specFormat (s.size : Int) (by omega) (by omega) w')
  have hz := itoa_sz n hn
  have hy := itoa_sz (s.size : Int) (by unfold I64; omega)
  simp only [bz_num] at FM FS
  have hc : k = 0 ∨ k = 1 ∨ k = 2 ∨ k = 3 := by omega
  clear hk hn
  rcases hc with rfl | rfl | rfl | rfl
  · show Calls _ _ _ _ (GivesQ w (.string ⟨#[78, 59]⟩))
    go_enter Tryd.func17, Tryd.ntmps17
    go_wp2
    go_ret
    exact ⟨rfl, b1 _ _⟩
  · rw [show lf 1 n s = [98, 58] ++ (Lib.itoa n ++ [59]) from rfl, ← seq3]
    obtain ⟨z, HZ⟩ : ∃ z, Hid (bz (Lib.itoa n) = z) := ⟨_, Lib.hid rfl⟩
    rw [HZ.out] at FM hz ⊢
    show Calls _ _ _ _ (GivesQ w (.string (⟨#[98, 58]⟩ ++ z ++ ⟨#[59]⟩)))
    go_enter Tryd.func17, Tryd.ntmps17
    go_wp2_with (fail)
    refine (FM.out _).mono ?_
    rintro e w1 ⟨rfl, hb1⟩
    have HB1 := Lib.hid (bs (b1 w _) hb1)
    clear hb1
    go_wp2_with (fail)
    go_ret
    exact ⟨rfl, HB1.out⟩
  · rw [show lf 2 n s = [105, 58] ++ (Lib.itoa n ++ [59]) from rfl, ← seq3]
    obtain ⟨z, HZ⟩ : ∃ z, Hid (bz (Lib.itoa n) = z) := ⟨_, Lib.hid rfl⟩
    rw [HZ.out] at FM hz ⊢
    show Calls _ _ _ _ (GivesQ w (.string (⟨#[105, 58]⟩ ++ z ++ ⟨#[59]⟩)))
    go_enter Tryd.func17, Tryd.ntmps17
    go_wp2_with (fail)
    refine (FM.out _).mono ?_
    rintro e w1 ⟨rfl, hb1⟩
    have HB1 := Lib.hid (bs (b1 w _) hb1)
    clear hb1
    go_wp2_with (fail)
    go_ret
    exact ⟨rfl, HB1.out⟩
  · rw [show lf 3 n s = [115, 58] ++ (Lib.itoa s.size ++ ([58] ++ (s.data.toList ++ [59]))) from rfl, ← seq5, bz_of]
    obtain ⟨z, HZ⟩ : ∃ z, Hid (bz (Lib.itoa s.size) = z) := ⟨_, Lib.hid rfl⟩
    rw [HZ.out] at FS hy ⊢
    show Calls _ _ _ _ (GivesQ w (.string (⟨#[115, 58]⟩ ++ z ++ ⟨#[58]⟩ ++ s ++ ⟨#[59]⟩)))
    obtain ⟨W0, HW0⟩ : ∃ W, Hid (W = w.alloc (.cells #[.int .i64 3, .int .i64 n, .string s, .int .i64 x, .slice A L c] IV)) := ⟨_, Lib.hid rfl⟩
    have E0 : Hid (W0.heap[w.heap.size]? = some (.cells #[.int .i64 3, .int .i64 n, .string s, .int .i64 x, .slice A L c] IV (0, 0))) := Lib.hid (by rw [HW0.out]; exact heap_alloc_new w _)
    have HB0 : Hid (Below w.heap.size w W0) := Lib.hid (by rw [HW0.out]; exact b1 w _)
    have z0 : W0.cell? ⟨w.heap.size, 2, none⟩ = some (.string s) := (rowc E0.out).1 2
    go_enter Tryd.func17, Tryd.ntmps17
    go_wp2_with (fail)
    rw [← HW0.out]
    go_region_with (first
      | (go_at_call 33; refine (FS.out _).mono ?_
         rintro e w1 ⟨rfl, hb1⟩
         have hbx := (bs ((Below.refl W0.heap.size W0).drew) hb1)
         have z2 : w1.cell? ⟨w.heap.size, 2, none⟩ = some (.string s) := (rowc (carry hbx E0.out)).1 2
         have HB1 := Lib.hid (bs HB0.out hbx)
         clear hb1 hbx))
    all_goals
      go_wp2_with (fail)
      go_ret
      exact ⟨rfl, HB1.out⟩

/-- A key's value. -/
theorem leaf_key (y : Ky) (hy : I64 y.num ∧ y.str.size ≤ 1000000000) (w : World) :
    Calls Tryd.prog 17 #[if y.text then vV 3 0 y.str 0 none 0 0 else vV 2 y.num ⟨#[]⟩ 0 none 0 0] w (GivesQ w (.string (bz (serK y)))) := by
  unfold serK
  cases hb : y.text with
  | true => exact leaf_s 3 0 y.str 0 none 0 0 (by decide) (by unfold I64; omega) hy.2 w
  | false => exact leaf_s 2 y.num ⟨#[]⟩ 0 none 0 0 (by decide) hy.1 (by simp [ByteArray.size]) w

def SeS (t : Tr) : Prop := tot t ≤ 1000000000 → ∀ (w : World) (S : Nat → Prop) (v : Value), TIn w S t v → Calls Tryd.prog 17 #[v] w (GivesQ w (.string (bz (ser t))))

set_option maxHeartbeats 2000000 in
set_option maxRecDepth 100000 in
theorem text_s : ∀ t, SeS t := Tr.ind fun k n s x ks vs ih hT w S v h => by
  have hwd := wd_sers h.wd
  obtain ⟨A, c, rfl, hk, hin⟩ := h.out
  clear h
  rw [tot] at hT
  rw [ser_mk]
  by_cases hkk : 0 ≤ k ∧ k ≤ 3
  · rw [if_pos hkk]
    exact leaf_s k n s x A vs.length c hkk hk.2.1 (by omega) w
  rw [if_neg hkk]
  have h0 : ¬ k = 0 := by omega
  have h1 : ¬ k = 1 := by omega
  have h2 : ¬ k = 2 := by omega
  have h3 : ¬ k = 3 := by omega
  have k0 : (k == 0) = false := by rw [beq_eq_false_iff_ne]; exact h0
  have k1 : (k == 1) = false := by rw [beq_eq_false_iff_ne]; exact h1
  have k2 : (k == 2) = false := by rw [beq_eq_false_iff_ne]; exact h2
  have k3 : (k == 3) = false := by rw [beq_eq_false_iff_ne]; exact h3
  obtain ⟨L, HL⟩ : ∃ L, Hid (L = vs.length) := ⟨_, Lib.hid rfl⟩
  have hhd := hd_len vs.length x hin.2.1 hk.2.2.1
  have F1 := Lib.hid (fun w' => fmt.specFormat (L : Int) (by have := HL.out; omega) (by have := HL.out; omega) w')
  have F2 := Lib.hid (fun w' => fmt.specFormat x hk.2.2.1.1 hk.2.2.1.2 w')
  have hz1 := itoa_sz (L : Int) (by have := HL.out; unfold I64; omega)
  have hz2 := itoa_sz x hk.2.2.1
  simp only [bz_num] at F1 F2
  obtain ⟨T, HT⟩ : ∃ T, Hid (hd L x ++ sers ks vs = T) := ⟨_, Lib.hid rfl⟩
  have hTl : T.length ≤ 100000000000 := by rw [← HT.out, List.length_append, HL.out]; omega
  obtain ⟨Z, HZ9⟩ : ∃ Z, Hid (bz (hd L x) = Z) := ⟨_, Lib.hid rfl⟩
  have HW : Hid (bz [97, 58] ++ bz (Lib.itoa L) ++ bz [58] ++ bz (Lib.itoa x) ++ bz [123] = Z) := Lib.hid ((seq_hd L x).trans HZ9.out)
  obtain ⟨y1, HZ1⟩ : ∃ z, Hid (bz (Lib.itoa L) = z) := ⟨_, Lib.hid rfl⟩
  obtain ⟨y2, HZ2⟩ : ∃ z, Hid (bz (Lib.itoa x) = z) := ⟨_, Lib.hid rfl⟩
  rw [HZ1.out] at F1 hz1 HW
  rw [HZ2.out] at F2 hz2 HW
  have hLm : L ≤ 1000000000 := by rw [HL.out]; omega
  have HI := Lib.hid hin
  have HTOT : Hid (tots ks vs ≤ 1000000000) := Lib.hid (by omega)
  rw [← HL.out, ← List.append_assoc, HT.out, ← bz_app]
  clear hin hk hwd hhd hT hkk
  obtain ⟨W0, HW0⟩ : ∃ W, Hid (W = w.alloc (.cells #[.int .i64 k, .int .i64 n, .string s, .int .i64 x, .slice A L c] IV)) := ⟨_, Lib.hid rfl⟩
  have E0 : Hid (W0.heap[w.heap.size]? = some (.cells #[.int .i64 k, .int .i64 n, .string s, .int .i64 x, .slice A L c] IV (0, 0))) := Lib.hid (by rw [HW0.out]; exact heap_alloc_new w _)
  have HB0 : Hid (Below w.heap.size w W0) := Lib.hid (by rw [HW0.out]; exact b1 w _)
  have z0 : W0.cell? ⟨w.heap.size, 4, none⟩ = some (.slice A L c) := (rowc E0.out).1 4
  have z1 : W0.cell? ⟨w.heap.size, 3, none⟩ = some (.int .i64 x) := (rowc E0.out).1 3
  have s1 : ¬ 9223372036854775807 < 2 + y1.size := by omega
  have s2 : ¬ 9223372036854775807 < 2 + y1.size + 1 := by omega
  have s3 : ¬ 9223372036854775807 < 2 + y1.size + 1 + y2.size := by omega
  have s4 : ¬ 9223372036854775807 < 2 + y1.size + 1 + y2.size + 1 := by omega
  show Calls _ _ _ _ (GivesQ w (.string (bz T ++ ⟨#[125]⟩)))
  go_enter Tryd.func17, Tryd.ntmps17
  go_upto_region 10 with fail
  go_cut [3] (fun v wx => v = .string Z ∧ Below w.heap.size w wx ∧ wx.heap[w.heap.size]? = some (.cells #[.int .i64 k, .int .i64 n, .string s, .int .i64 x, .slice A L c] IV (0, 0)))
  case first =>
    rw [← HW0.out]
    -- HELD S10
    refine wp_region_held_drew (S := (fun w' => w'.cell? ⟨w.heap.size, 4, none⟩ = some (.slice A L c) ∧ w'.cell? ⟨w.heap.size, 3, none⟩ = some (.int .i64 x))) (by kernel_rfl) ?_ (fun hHeld => ?_)
    · (try dsimp only) <;> go_keep
    refine wpAnyH_take (i := 0) (v := ?_) rfl (by kernel_rfl) (by kernel_rfl) (by kernel_rfl) (fun _ _ _ h => h) (Or.inl ⟨by kernel_rfl, ?_⟩) (by assumption) ?_
    rotate_left
    · (intro w hSw; (try dsimp only at hSw); go_split_ands; go_simp; try (with_reducible rfl))
    try simp only [Act.put, List.setIfInBounds_toArray, List.set_cons_zero, List.set_cons_succ, List.getElem_toArray, List.getElem_cons_zero]
    refine wpAnyH_take (i := 1) (v := ?_) rfl (by kernel_rfl) (by kernel_rfl) (by kernel_rfl) (fun _ _ _ h => h) (Or.inl ⟨by kernel_rfl, ?_⟩) (by assumption) ?_
    rotate_left
    · (intro w hSw; (try dsimp only at hSw); go_split_ands; go_simp; try (with_reducible rfl))
    try simp only [Act.put, List.setIfInBounds_toArray, List.set_cons_zero, List.set_cons_succ, List.getElem_toArray, List.getElem_cons_zero, List.getElem_cons_succ]
    refine wpAnyH_take (i := 2) (v := ?_) rfl (by kernel_rfl) (by kernel_rfl) (by kernel_rfl) (fun _ _ _ h => h) (Or.inl ⟨by kernel_rfl, ?_⟩) (by assumption) ?_
    rotate_left
    · (intro w hSw; (try dsimp only at hSw); go_split_ands; go_simp; try (with_reducible rfl))
    try simp only [Act.put, List.setIfInBounds_toArray, List.set_cons_zero, List.set_cons_succ, List.getElem_toArray, List.getElem_cons_zero, List.getElem_cons_succ]
    refine wpAnyH_take (i := 6) (v := ?_) rfl (by kernel_rfl) (by kernel_rfl) (by kernel_rfl) (fun _ _ _ h => h) (Or.inl ⟨by kernel_rfl, ?_⟩) (by assumption) ?_
    rotate_left
    · (intro w hSw; (try dsimp only at hSw); go_split_ands; go_simp; try (with_reducible rfl))
    try simp only [Act.put, List.setIfInBounds_toArray, List.set_cons_zero, List.set_cons_succ, List.getElem_toArray, List.getElem_cons_zero, List.getElem_cons_succ]
    refine wpAnyH_take (i := 7) (v := ?_) rfl (by kernel_rfl) (by kernel_rfl) (by kernel_rfl) (fun _ _ _ h => h) (Or.inl ⟨by kernel_rfl, ?_⟩) (by assumption) ?_
    rotate_left
    · (intro w hSw; (try dsimp only at hSw); go_split_ands; go_simp; try (with_reducible rfl))
    try simp only [Act.put, List.setIfInBounds_toArray, List.set_cons_zero, List.set_cons_succ, List.getElem_toArray, List.getElem_cons_zero, List.getElem_cons_succ]
    refine wpAnyH_ready (rs := [3]) (by kernel_rfl) (by simp) ?_
    refine AllReadyH.cons rfl (fun K hK => ?_) AllReadyH.nil
    go_simp
    go_at_call 33
    refine (F1.out _).mono ?_
    rintro e w1 ⟨rfl, hb1⟩
    have hbx := (bs ((Below.refl W0.heap.size W0).drew) hb1)
    have E1 := Lib.hid (carry hbx E0.out)
    have HB1 := Lib.hid (bs HB0.out hbx)
    have a0 : w1.cell? ⟨w.heap.size, 4, none⟩ = some (.slice A L c) := (rowc E1.out).1 4
    have a1 : w1.cell? ⟨w.heap.size, 3, none⟩ = some (.int .i64 x) := (rowc E1.out).1 3
    clear hb1 hbx
    try go_wp2_with (fail)
    refine hK.out _ _ ?_ (fun hHeld => ?_)
    · ((try dsimp only); first | with_reducible exact ⟨z0, z1⟩ | with_reducible exact ⟨a0, a1⟩ | with_reducible exact ⟨b0, b1⟩ | go_keep)
    clear hK K
    try simp only [Act.put, List.setIfInBounds_toArray, List.set_cons_zero, List.set_cons_succ, List.getElem_toArray, List.getElem_cons_zero, List.getElem_cons_succ]
    refine wpAnyH_take (i := 4) (v := ?_) rfl (by kernel_rfl) (by kernel_rfl) (by kernel_rfl) (fun _ _ _ h => h) (Or.inl ⟨by kernel_rfl, ?_⟩) (by assumption) ?_
    rotate_left
    · (intro w hSw; (try dsimp only at hSw); go_split_ands; go_simp; try (with_reducible rfl))
    try simp only [Act.put, List.setIfInBounds_toArray, List.set_cons_zero, List.set_cons_succ, List.getElem_toArray, List.getElem_cons_zero, List.getElem_cons_succ]
    refine wpAnyH_take (i := 5) (v := ?_) rfl (by kernel_rfl) (by kernel_rfl) (by kernel_rfl) (fun _ _ _ h => h) (Or.inl ⟨by kernel_rfl, ?_⟩) (by assumption) ?_
    rotate_left
    · (intro w hSw; (try dsimp only at hSw); go_split_ands; go_simp; try (with_reducible rfl))
    try simp only [Act.put, List.setIfInBounds_toArray, List.set_cons_zero, List.set_cons_succ, List.getElem_toArray, List.getElem_cons_zero, List.getElem_cons_succ]
    refine wpAnyH_ready (rs := [8]) (by kernel_rfl) (by simp) ?_
    refine AllReadyH.cons rfl (fun K hK => ?_) AllReadyH.nil
    go_simp
    go_at_call 33
    refine (F2.out _).mono ?_
    rintro e w2 ⟨rfl, hb2⟩
    have E2 := Lib.hid (carry hb2 E1.out)
    have HB2 := Lib.hid (bs HB1.out hb2)
    have b0 : w2.cell? ⟨w.heap.size, 4, none⟩ = some (.slice A L c) := (rowc E2.out).1 4
    have b1 : w2.cell? ⟨w.heap.size, 3, none⟩ = some (.int .i64 x) := (rowc E2.out).1 3
    clear hb2
    try go_wp2_with (fail)
    refine hK.out _ _ ?_ (fun hHeld => ?_)
    · ((try dsimp only); first | with_reducible exact ⟨z0, z1⟩ | with_reducible exact ⟨a0, a1⟩ | with_reducible exact ⟨b0, b1⟩ | go_keep)
    clear hK K
    try simp only [Act.put, List.setIfInBounds_toArray, List.set_cons_zero, List.set_cons_succ, List.getElem_toArray, List.getElem_cons_zero, List.getElem_cons_succ]
    refine wpAnyH_take (i := 9) (v := ?_) rfl (by kernel_rfl) (by kernel_rfl) (by kernel_rfl) (fun _ _ _ h => h) (Or.inl ⟨by kernel_rfl, ?_⟩) (by assumption) ?_
    rotate_left
    · (intro w hSw; (try dsimp only at hSw); go_split_ands; go_simp; try (with_reducible rfl))
    try simp only [Act.put, List.setIfInBounds_toArray, List.set_cons_zero, List.set_cons_succ, List.getElem_toArray, List.getElem_cons_zero, List.getElem_cons_succ]
    refine wpAnyH_take (i := 10) (v := ?_) rfl (by kernel_rfl) (by kernel_rfl) (by kernel_rfl) (fun _ _ _ h => h) (Or.inl ⟨by kernel_rfl, ?_⟩) (by assumption) ?_
    rotate_left
    · (intro w hSw; (try dsimp only at hSw); go_split_ands; go_simp; try (with_reducible rfl))
    try simp only [Act.put, List.setIfInBounds_toArray, List.set_cons_zero, List.set_cons_succ, List.getElem_toArray, List.getElem_cons_zero, List.getElem_cons_succ]
    refine wpAnyH_ready (rs := [11]) (by kernel_rfl) (by simp) ?_
    refine AllReadyH.cons rfl (fun K hK => ?_) AllReadyH.nil
    go_simp
    refine hK.out _ _ ?_ (fun hHeld => ?_)
    · ((try dsimp only); first | with_reducible exact ⟨z0, z1⟩ | with_reducible exact ⟨a0, a1⟩ | with_reducible exact ⟨b0, b1⟩ | go_keep)
    clear hK K
    try simp only [Act.put, List.setIfInBounds_toArray, List.set_cons_zero, List.set_cons_succ, List.getElem_toArray, List.getElem_cons_zero, List.getElem_cons_succ]
    refine wpAnyH_done (by kernel_rfl) ?_ _
    go_wp2_with (fail)
    go_meet
    exact ⟨by rw [← HW.out]; rfl, HB2.out, E2.out⟩
    -- DLEH
  case rest =>
  obtain ⟨rfl, hb2, hE2⟩ := hcut
  have HB2 := Lib.hid hb2
  have E2 := Lib.hid hE2
  clear hb2 hE2 z0 z1
  go_wp2_with (fail)
  go_loopg [3, 4] (L + 1) (fun gk a i wr => ∃ (j : Nat) (l : List UInt8) (z : ByteArray), i = .int .i64 j ∧ a = .string z ∧ Hid (bz l = z) ∧ gk + j = L + 1 ∧ j ≤ L ∧ Hid (l ++ sers (ks.drop j) (vs.drop j) = T) ∧ Hid (wr.heap[w.heap.size]? = some (.cells #[.int .i64 k, .int .i64 n, .string s, .int .i64 x, .slice A L c] IV (0, 0))) ∧ Below w.heap.size w wr)
  case atStart => exact ⟨0, hd L x, _, rfl, rfl, HZ9, by omega, by omega, Lib.hid (by rw [List.drop_zero, List.drop_zero]; exact HT.out), E2, HB2.out⟩
  case round =>
    obtain ⟨j, l, z, rfl, rfl, HZ, hgj, hjL, HQ, HE, hb⟩ := hrel
    have HB := Lib.hid hb
    clear hb
    obtain ⟨r0, -⟩ := rowc HE.out
    have hzl : z.size ≤ 100000000000 := by
      rw [← HZ.out, bz_size]
      have := congrArg List.length HQ.out
      rw [List.length_append] at this
      omega
    by_cases hlt : j < L
    · obtain ⟨a, ⟨yb, yn, ys⟩, k', n', s', x', ks', vs', A1, c1, rfl, hS, hky, hvs, ht, hyb, hkb, hin', hcell⟩ := (HI.out.below HB.out).item (i := j) (by rw [← HL.out]; exact hlt)
      have htm := tots_item hky hvs
      have hto := HTOT.out
      have hys : ys.size ≤ 1000000000 := by have : (Ky.mk yb yn ys).str.size = ys.size := rfl; omega
      have KV := Lib.hid (keyValue_s ⟨yb, yn, ys⟩)
      have LK := Lib.hid (leaf_key ⟨yb, yn, ys⟩ ⟨hyb.1, hys⟩)
      have ihj : ∀ w' : World, Below wr.heap.size wr w' → Calls Tryd.prog 17 #[vV k' n' s' x' A1 vs'.length c1] w' (GivesQ w' (.string (bz (ser (.mk k' n' s' x' ks' vs'))))) := fun w' hb' => ih _ (List.mem_of_getElem? hvs) (by omega) w' S _ (ht.below' hb')
      have hkl : (bz (serK ⟨yb, yn, ys⟩)).size ≤ 100000000000 := by
        have := serK_len ⟨yb, yn, ys⟩ hyb
        rw [bz_size]
        simp only at this
        omega
      have hvl : (bz (ser (.mk k' n' s' x' ks' vs'))).size ≤ 100000000000 := by
        have := ser_len ht.wd
        rw [bz_size]
        omega
      have HD := Lib.hid ((congrArg (l ++ ·) (sers_drop hky hvs)).symm.trans HQ.out)
      obtain ⟨u, HU⟩ : ∃ u, Hid (bz (serK ⟨yb, yn, ys⟩) = u) := ⟨_, Lib.hid rfl⟩
      obtain ⟨q, HQ2⟩ : ∃ u, Hid (bz (ser (.mk k' n' s' x' ks' vs')) = u) := ⟨_, Lib.hid rfl⟩
      have HJ : Hid (z ++ u ++ q = bz (l ++ (serK ⟨yb, yn, ys⟩ ++ ser (.mk k' n' s' x' ks' vs')))) := Lib.hid (by rw [← HZ.out, ← HU.out, ← HQ2.out, seq3])
      obtain ⟨Y, HY⟩ : ∃ Y, Hid (z ++ u ++ q = Y) := ⟨_, Lib.hid rfl⟩
      rw [HU.out] at LK hkl
      rw [HQ2.out] at ihj hvl
      obtain ⟨L1, HL1⟩ : ∃ L1, Hid (L1 = vs'.length) := ⟨_, Lib.hid rfl⟩
      rw [← HL1.out] at hcell ihj
      have IH := Lib.hid ihj
      obtain ⟨V, HV⟩ : ∃ V, Hid ((if (Ky.mk yb yn ys).text = true then vV 3 0 (Ky.mk yb yn ys).str 0 none 0 0 else vV 2 (Ky.mk yb yn ys).num ⟨#[]⟩ 0 none 0 0) = V) := ⟨_, Lib.hid rfl⟩
      rw [HV.out] at KV LK
      clear hky hvs ht hin' hyb hkb hS htm hys hto ihj
      have HC := Lib.hid hcell
      have g0 : wr.cell? ⟨w.heap.size, 4, none⟩ = some (.slice (some a) L c) := r0 4
      have g1 : wr.cell? (a.add (j * 8)) = some (.bool yb) := hcell.c0
      have g2 : wr.cell? ⟨(a.add (j * 8)).block, (a.add (j * 8)).off + 1, none⟩ = some (.int .i64 yn) := hcell.c1
      have g3 : wr.cell? ⟨(a.add (j * 8)).block, (a.add (j * 8)).off + 2, none⟩ = some (.string ys) := hcell.c2
      have g4 := hcell.c3
      have g5 := hcell.c4
      have g6 := hcell.c5
      have g7 := hcell.c6
      have g8 := hcell.c7
      clear r0 hcell
      have s5 : ¬ 9223372036854775807 < z.size + u.size := by omega
      have s6 : ¬ 9223372036854775807 < z.size + u.size + q.size := by omega
      go_upto_region 14 with fail
      -- HELD S14
      refine wp_region_held_drew (S := (fun w' => w'.cell? ⟨w.heap.size, 4, none⟩ = some (.slice (some a) L c) ∧ w'.cell? (a.add (j * 8)) = some (.bool yb) ∧ w'.cell? ⟨(a.add (j * 8)).block, (a.add (j * 8)).off + 1, none⟩ = some (.int .i64 yn) ∧ w'.cell? ⟨(a.add (j * 8)).block, (a.add (j * 8)).off + 2, none⟩ = some (.string ys) ∧ w'.cell? ⟨(a.add (j * 8)).block, (a.add (j * 8)).off + 3, none⟩ = some (.int .i64 k') ∧ w'.cell? ⟨(a.add (j * 8)).block, (a.add (j * 8)).off + 4, none⟩ = some (.int .i64 n') ∧ w'.cell? ⟨(a.add (j * 8)).block, (a.add (j * 8)).off + 5, none⟩ = some (.string s') ∧ w'.cell? ⟨(a.add (j * 8)).block, (a.add (j * 8)).off + 6, none⟩ = some (.int .i64 x') ∧ w'.cell? ⟨(a.add (j * 8)).block, (a.add (j * 8)).off + 7, none⟩ = some (.slice A1 L1 c1))) (by kernel_rfl) ?_ (fun hHeld => ?_)
      · (try dsimp only) <;> go_keep
      refine wpAnyH_take (i := 0) (v := ?_) rfl (by kernel_rfl) (by kernel_rfl) (by kernel_rfl) (fun _ _ _ h => h) (Or.inl ⟨by kernel_rfl, ?_⟩) (by assumption) ?_
      rotate_left
      · (intro w hSw; (try dsimp only at hSw); go_split_ands; go_simp; try (with_reducible rfl))
      try simp only [Act.put, List.setIfInBounds_toArray, List.set_cons_zero, List.set_cons_succ, List.getElem_toArray, List.getElem_cons_zero]
      refine wpAnyH_take (i := 1) (v := ?_) rfl (by kernel_rfl) (by kernel_rfl) (by kernel_rfl) (fun _ _ _ h => h) (Or.inl ⟨by kernel_rfl, ?_⟩) (by assumption) ?_
      rotate_left
      · (intro w hSw; (try dsimp only at hSw); go_split_ands; go_simp; try (with_reducible rfl))
      try simp only [Act.put, List.setIfInBounds_toArray, List.set_cons_zero, List.set_cons_succ, List.getElem_toArray, List.getElem_cons_zero, List.getElem_cons_succ]
      refine wpAnyH_take (i := 2) (v := ?_) rfl (by kernel_rfl) (by kernel_rfl) (by kernel_rfl) (fun _ _ _ h => h) (Or.inl ⟨by kernel_rfl, ?_⟩) (by assumption) ?_
      rotate_left
      · (intro w hSw; (try dsimp only at hSw); go_split_ands; go_simp; try (with_reducible rfl))
      try simp only [Act.put, List.setIfInBounds_toArray, List.set_cons_zero, List.set_cons_succ, List.getElem_toArray, List.getElem_cons_zero, List.getElem_cons_succ]
      refine wpAnyH_take (i := 3) (v := ?_) rfl (by kernel_rfl) (by kernel_rfl) (by kernel_rfl) (fun _ _ _ h => h) (Or.inl ⟨by kernel_rfl, ?_⟩) (by assumption) ?_
      rotate_left
      · (intro w hSw; (try dsimp only at hSw); go_split_ands; go_simp; try (with_reducible rfl))
      try simp only [Act.put, List.setIfInBounds_toArray, List.set_cons_zero, List.set_cons_succ, List.getElem_toArray, List.getElem_cons_zero, List.getElem_cons_succ]
      refine wpAnyH_take (i := 4) (v := ?_) rfl (by kernel_rfl) (by kernel_rfl) (by kernel_rfl) (fun _ _ _ h => h) (Or.inl ⟨by kernel_rfl, ?_⟩) (by assumption) ?_
      rotate_left
      · (intro w hSw; (try dsimp only at hSw); go_split_ands; go_simp; try (with_reducible rfl))
      try simp only [Act.put, List.setIfInBounds_toArray, List.set_cons_zero, List.set_cons_succ, List.getElem_toArray, List.getElem_cons_zero, List.getElem_cons_succ]
      refine wpAnyH_take (i := 5) (v := ?_) rfl (by kernel_rfl) (by kernel_rfl) (by kernel_rfl) (fun _ _ _ h => h) (Or.inl ⟨by kernel_rfl, ?_⟩) (by assumption) ?_
      rotate_left
      · (intro w hSw; (try dsimp only at hSw); go_split_ands; go_simp; try (with_reducible rfl))
      try simp only [Act.put, List.setIfInBounds_toArray, List.set_cons_zero, List.set_cons_succ, List.getElem_toArray, List.getElem_cons_zero, List.getElem_cons_succ]
      refine wpAnyH_take (i := 6) (v := ?_) rfl (by kernel_rfl) (by kernel_rfl) (by kernel_rfl) (fun _ _ _ h => h) (Or.inl ⟨by kernel_rfl, ?_⟩) (by assumption) ?_
      rotate_left
      · (intro w hSw; (try dsimp only at hSw); go_split_ands; go_simp; try (with_reducible rfl))
      try simp only [Act.put, List.setIfInBounds_toArray, List.set_cons_zero, List.set_cons_succ, List.getElem_toArray, List.getElem_cons_zero, List.getElem_cons_succ]
      refine wpAnyH_take (i := 10) (v := ?_) rfl (by kernel_rfl) (by kernel_rfl) (by kernel_rfl) (fun _ _ _ h => h) (Or.inl ⟨by kernel_rfl, ?_⟩) (by assumption) ?_
      rotate_left
      · (intro w hSw; (try dsimp only at hSw); go_split_ands; go_simp; try (with_reducible rfl))
      try simp only [Act.put, List.setIfInBounds_toArray, List.set_cons_zero, List.set_cons_succ, List.getElem_toArray, List.getElem_cons_zero, List.getElem_cons_succ]
      refine wpAnyH_take (i := 11) (v := ?_) rfl (by kernel_rfl) (by kernel_rfl) (by kernel_rfl) (fun _ _ _ h => h) (Or.inl ⟨by kernel_rfl, ?_⟩) (by assumption) ?_
      rotate_left
      · (intro w hSw; (try dsimp only at hSw); go_split_ands; go_simp; try (with_reducible rfl))
      try simp only [Act.put, List.setIfInBounds_toArray, List.set_cons_zero, List.set_cons_succ, List.getElem_toArray, List.getElem_cons_zero, List.getElem_cons_succ]
      refine wpAnyH_take (i := 12) (v := ?_) rfl (by kernel_rfl) (by kernel_rfl) (by kernel_rfl) (fun _ _ _ h => h) (Or.inl ⟨by kernel_rfl, ?_⟩) (by assumption) ?_
      rotate_left
      · (intro w hSw; (try dsimp only at hSw); go_split_ands; go_simp; try (with_reducible rfl))
      try simp only [Act.put, List.setIfInBounds_toArray, List.set_cons_zero, List.set_cons_succ, List.getElem_toArray, List.getElem_cons_zero, List.getElem_cons_succ]
      refine wpAnyH_take (i := 13) (v := ?_) rfl (by kernel_rfl) (by kernel_rfl) (by kernel_rfl) (fun _ _ _ h => h) (Or.inl ⟨by kernel_rfl, ?_⟩) (by assumption) ?_
      rotate_left
      · (intro w hSw; (try dsimp only at hSw); go_split_ands; go_simp; try (with_reducible rfl))
      try simp only [Act.put, List.setIfInBounds_toArray, List.set_cons_zero, List.set_cons_succ, List.getElem_toArray, List.getElem_cons_zero, List.getElem_cons_succ]
      refine wpAnyH_take (i := 14) (v := ?_) rfl (by kernel_rfl) (by kernel_rfl) (by kernel_rfl) (fun _ _ _ h => h) (Or.inl ⟨by kernel_rfl, ?_⟩) (by assumption) ?_
      rotate_left
      · (intro w hSw; (try dsimp only at hSw); go_split_ands; go_simp; try (with_reducible rfl))
      try simp only [Act.put, List.setIfInBounds_toArray, List.set_cons_zero, List.set_cons_succ, List.getElem_toArray, List.getElem_cons_zero, List.getElem_cons_succ]
      refine wpAnyH_take (i := 15) (v := ?_) rfl (by kernel_rfl) (by kernel_rfl) (by kernel_rfl) (fun _ _ _ h => h) (Or.inl ⟨by kernel_rfl, ?_⟩) (by assumption) ?_
      rotate_left
      · (intro w hSw; (try dsimp only at hSw); go_split_ands; go_simp; try (with_reducible rfl))
      try simp only [Act.put, List.setIfInBounds_toArray, List.set_cons_zero, List.set_cons_succ, List.getElem_toArray, List.getElem_cons_zero, List.getElem_cons_succ]
      refine wpAnyH_ready (rs := [7]) (by kernel_rfl) (by simp) ?_
      refine AllReadyH.cons rfl (fun K hK => ?_) AllReadyH.nil
      go_simp
      go_at_call 34
      refine (KV.out _).mono ?_
      rintro e w3 ⟨rfl, hb⟩
      have HB3 := Lib.hid (bs ((Below.refl wr.heap.size wr).drew) hb)
      have st : ∀ (a : Addr) (u : Value), wr.cell? a = some u → w3.cell? a = some u := fun a u hu => cell_stays (fun hlt => HB3.out.block _ hlt) hu
      have a0 : w3.cell? ⟨w.heap.size, 4, none⟩ = some (.slice (some a) L c) := (rowc (carry HB3.out HE.out)).1 4
      have a1 : w3.cell? (a.add (j * 8)) = some (.bool yb) := st _ _ HC.out.c0
      have a2 : w3.cell? ⟨(a.add (j * 8)).block, (a.add (j * 8)).off + 1, none⟩ = some (.int .i64 yn) := st _ _ HC.out.c1
      have a3 : w3.cell? ⟨(a.add (j * 8)).block, (a.add (j * 8)).off + 2, none⟩ = some (.string ys) := st _ _ HC.out.c2
      have a4 : w3.cell? ⟨(a.add (j * 8)).block, (a.add (j * 8)).off + 3, none⟩ = some (.int .i64 k') := st _ _ HC.out.c3
      have a5 : w3.cell? ⟨(a.add (j * 8)).block, (a.add (j * 8)).off + 4, none⟩ = some (.int .i64 n') := st _ _ HC.out.c4
      have a6 : w3.cell? ⟨(a.add (j * 8)).block, (a.add (j * 8)).off + 5, none⟩ = some (.string s') := st _ _ HC.out.c5
      have a7 : w3.cell? ⟨(a.add (j * 8)).block, (a.add (j * 8)).off + 6, none⟩ = some (.int .i64 x') := st _ _ HC.out.c6
      have a8 : w3.cell? ⟨(a.add (j * 8)).block, (a.add (j * 8)).off + 7, none⟩ = some (.slice A1 L1 c1) := st _ _ HC.out.c7
      clear st hb
      try go_wp2_with (fail)
      refine hK.out _ _ ?_ (fun hHeld => ?_)
      · ((try dsimp only); first | with_reducible exact ⟨g0, g1, g2, g3, g4, g5, g6, g7, g8⟩ | with_reducible exact ⟨a0, a1, a2, a3, a4, a5, a6, a7, a8⟩ | with_reducible exact ⟨b0, b1, b2, b3, b4, b5, b6, b7, b8⟩ | with_reducible exact ⟨d0, d1, d2, d3, d4, d5, d6, d7, d8⟩ | go_keep)
      clear hK K
      try simp only [Act.put, List.setIfInBounds_toArray, List.set_cons_zero, List.set_cons_succ, List.getElem_toArray, List.getElem_cons_zero, List.getElem_cons_succ]
      refine wpAnyH_ready (rs := [8]) (by kernel_rfl) (by simp) ?_
      refine AllReadyH.cons rfl (fun K hK => ?_) AllReadyH.nil
      go_simp
      go_at_call 17
      refine (LK.out _).mono ?_
      rintro e w4 ⟨rfl, hb⟩
      have HB4 := Lib.hid (bs HB3.out hb)
      have st : ∀ (a : Addr) (u : Value), wr.cell? a = some u → w4.cell? a = some u := fun a u hu => cell_stays (fun hlt => HB4.out.block _ hlt) hu
      have b0 : w4.cell? ⟨w.heap.size, 4, none⟩ = some (.slice (some a) L c) := (rowc (carry HB4.out HE.out)).1 4
      have b1 : w4.cell? (a.add (j * 8)) = some (.bool yb) := st _ _ HC.out.c0
      have b2 : w4.cell? ⟨(a.add (j * 8)).block, (a.add (j * 8)).off + 1, none⟩ = some (.int .i64 yn) := st _ _ HC.out.c1
      have b3 : w4.cell? ⟨(a.add (j * 8)).block, (a.add (j * 8)).off + 2, none⟩ = some (.string ys) := st _ _ HC.out.c2
      have b4 : w4.cell? ⟨(a.add (j * 8)).block, (a.add (j * 8)).off + 3, none⟩ = some (.int .i64 k') := st _ _ HC.out.c3
      have b5 : w4.cell? ⟨(a.add (j * 8)).block, (a.add (j * 8)).off + 4, none⟩ = some (.int .i64 n') := st _ _ HC.out.c4
      have b6 : w4.cell? ⟨(a.add (j * 8)).block, (a.add (j * 8)).off + 5, none⟩ = some (.string s') := st _ _ HC.out.c5
      have b7 : w4.cell? ⟨(a.add (j * 8)).block, (a.add (j * 8)).off + 6, none⟩ = some (.int .i64 x') := st _ _ HC.out.c6
      have b8 : w4.cell? ⟨(a.add (j * 8)).block, (a.add (j * 8)).off + 7, none⟩ = some (.slice A1 L1 c1) := st _ _ HC.out.c7
      clear st hb
      try go_wp2_with (fail)
      refine hK.out _ _ ?_ (fun hHeld => ?_)
      · ((try dsimp only); first | with_reducible exact ⟨g0, g1, g2, g3, g4, g5, g6, g7, g8⟩ | with_reducible exact ⟨a0, a1, a2, a3, a4, a5, a6, a7, a8⟩ | with_reducible exact ⟨b0, b1, b2, b3, b4, b5, b6, b7, b8⟩ | with_reducible exact ⟨d0, d1, d2, d3, d4, d5, d6, d7, d8⟩ | go_keep)
      clear hK K
      try simp only [Act.put, List.setIfInBounds_toArray, List.set_cons_zero, List.set_cons_succ, List.getElem_toArray, List.getElem_cons_zero, List.getElem_cons_succ]
      refine wpAnyH_take (i := 9) (v := ?_) rfl (by kernel_rfl) (by kernel_rfl) (by kernel_rfl) (fun _ _ _ h => h) (Or.inl ⟨by kernel_rfl, ?_⟩) (by assumption) ?_
      rotate_left
      · (intro w hSw; (try dsimp only at hSw); go_split_ands; go_simp; try (with_reducible rfl))
      try simp only [Act.put, List.setIfInBounds_toArray, List.set_cons_zero, List.set_cons_succ, List.getElem_toArray, List.getElem_cons_zero, List.getElem_cons_succ]
      refine wpAnyH_ready (rs := [16]) (by kernel_rfl) (by simp) ?_
      refine AllReadyH.cons rfl (fun K hK => ?_) AllReadyH.nil
      go_simp
      go_at_call 17
      refine (IH.out _ HB4.out).mono ?_
      rintro e w5 ⟨rfl, hb⟩
      have HB5 := Lib.hid (bs HB4.out hb)
      have st : ∀ (a : Addr) (u : Value), wr.cell? a = some u → w5.cell? a = some u := fun a u hu => cell_stays (fun hlt => HB5.out.block _ hlt) hu
      have d0 : w5.cell? ⟨w.heap.size, 4, none⟩ = some (.slice (some a) L c) := (rowc (carry HB5.out HE.out)).1 4
      have d1 : w5.cell? (a.add (j * 8)) = some (.bool yb) := st _ _ HC.out.c0
      have d2 : w5.cell? ⟨(a.add (j * 8)).block, (a.add (j * 8)).off + 1, none⟩ = some (.int .i64 yn) := st _ _ HC.out.c1
      have d3 : w5.cell? ⟨(a.add (j * 8)).block, (a.add (j * 8)).off + 2, none⟩ = some (.string ys) := st _ _ HC.out.c2
      have d4 : w5.cell? ⟨(a.add (j * 8)).block, (a.add (j * 8)).off + 3, none⟩ = some (.int .i64 k') := st _ _ HC.out.c3
      have d5 : w5.cell? ⟨(a.add (j * 8)).block, (a.add (j * 8)).off + 4, none⟩ = some (.int .i64 n') := st _ _ HC.out.c4
      have d6 : w5.cell? ⟨(a.add (j * 8)).block, (a.add (j * 8)).off + 5, none⟩ = some (.string s') := st _ _ HC.out.c5
      have d7 : w5.cell? ⟨(a.add (j * 8)).block, (a.add (j * 8)).off + 6, none⟩ = some (.int .i64 x') := st _ _ HC.out.c6
      have d8 : w5.cell? ⟨(a.add (j * 8)).block, (a.add (j * 8)).off + 7, none⟩ = some (.slice A1 L1 c1) := st _ _ HC.out.c7
      clear st hb
      try go_wp2_with (fail)
      refine hK.out _ _ ?_ (fun hHeld => ?_)
      · ((try dsimp only); first | with_reducible exact ⟨g0, g1, g2, g3, g4, g5, g6, g7, g8⟩ | with_reducible exact ⟨a0, a1, a2, a3, a4, a5, a6, a7, a8⟩ | with_reducible exact ⟨b0, b1, b2, b3, b4, b5, b6, b7, b8⟩ | with_reducible exact ⟨d0, d1, d2, d3, d4, d5, d6, d7, d8⟩ | go_keep)
      clear hK K
      try simp only [Act.put, List.setIfInBounds_toArray, List.set_cons_zero, List.set_cons_succ, List.getElem_toArray, List.getElem_cons_zero, List.getElem_cons_succ]
      refine wpAnyH_take (i := 17) (v := ?_) rfl (by kernel_rfl) (by kernel_rfl) (by kernel_rfl) (fun _ _ _ h => h) (Or.inl ⟨by kernel_rfl, ?_⟩) (by assumption) ?_
      rotate_left
      · (intro w hSw; (try dsimp only at hSw); go_split_ands; go_simp; try (with_reducible rfl))
      try simp only [Act.put, List.setIfInBounds_toArray, List.set_cons_zero, List.set_cons_succ, List.getElem_toArray, List.getElem_cons_zero, List.getElem_cons_succ]
      refine wpAnyH_ready (rs := [18]) (by kernel_rfl) (by simp) ?_
      refine AllReadyH.cons rfl (fun K hK => ?_) AllReadyH.nil
      go_simp
      refine hK.out _ _ ?_ (fun hHeld => ?_)
      · ((try dsimp only); first | with_reducible exact ⟨g0, g1, g2, g3, g4, g5, g6, g7, g8⟩ | with_reducible exact ⟨a0, a1, a2, a3, a4, a5, a6, a7, a8⟩ | with_reducible exact ⟨b0, b1, b2, b3, b4, b5, b6, b7, b8⟩ | with_reducible exact ⟨d0, d1, d2, d3, d4, d5, d6, d7, d8⟩ | go_keep)
      clear hK K
      try simp only [Act.put, List.setIfInBounds_toArray, List.set_cons_zero, List.set_cons_succ, List.getElem_toArray, List.getElem_cons_zero, List.getElem_cons_succ]
      refine wpAnyH_done (by kernel_rfl) ?_ _
      go_wp2_with (fail)
      clear d0 d1 d2 d3 d4 d5 d6 d7 d8
      go_roundg (L - j)
      case rel => exact ⟨j + 1, _, _, by go_num, rfl, Lib.hid HJ.out.symm, by omega, by omega, Lib.hid (by have := HD.out; simpa using this), Lib.hid (carry HB5.out HE.out), bs HB.out HB5.out⟩
      case measure => omega
      -- DLEH
    · obtain rfl : j = L := by omega
      have HF : Hid (bz T = z) := Lib.hid (by
        have := HQ.out
        rw [show vs.drop j = [] from List.drop_eq_nil_of_le (Nat.le_of_eq HL.out.symm), sers_nil, List.append_nil] at this
        rw [← this, HZ.out])
      go_wp2_with (fail)
      go_ret
      exact ⟨by rw [HF.out]; rfl, HB.out⟩

set_option maxRecDepth 100000 in
theorem serialize_s (t : Tr) (hT : tot t ≤ 1000000000) (w : World) (S : Nat → Prop) (v : Value) (hE : prs.Env w) (h : TIn w S t v) : Calls Tryd.prog 6 #[v] w (GivesQ w (seV t)) := by
  have IV : ∀ w', Below w.heap.size w w' → Calls Tryd.prog 15 #[v] w' (BoQ w' (valB t)) := fun w' hb => isValue_s t (by omega) w' S v (hE.stays hb) (h.below' hb)
  have IP : ∀ w', Below w.heap.size w w' → Calls Tryd.prog 16 #[v] w' (GivesQ w' (.bool (plainB t))) := fun w' hb => isPlain_s t w' S v (h.below' hb)
  have TX : ∀ w', Below w.heap.size w w' → Calls Tryd.prog 17 #[v] w' (GivesQ w' (.string (bz (ser t)))) := fun w' hb => text_s t hT w' S v (h.below' hb)
  unfold seV seL seB
  obtain ⟨q1, HQ1⟩ : ∃ q, Hid (valB t = q) := ⟨_, Lib.hid rfl⟩
  obtain ⟨q2, HQ2⟩ : ∃ q, Hid (plainB t = q) := ⟨_, Lib.hid rfl⟩
  obtain ⟨z, HZ⟩ : ∃ z, Hid (bz (ser t) = z) := ⟨_, Lib.hid rfl⟩
  rw [HQ1.out] at IV ⊢
  rw [HQ2.out] at IP ⊢
  rw [HZ.out] at TX
  have IV := Lib.hid IV
  have IP := Lib.hid IP
  have TX := Lib.hid TX
  obtain ⟨k, n, s, x, ks, vs⟩ := t
  obtain ⟨A, c, rfl, hk, hin⟩ := h.out
  clear h hk hin hE hT HQ1 HQ2
  cases q1 with
  | false =>
    show Calls _ _ _ _ (GivesQ w (.tuple #[.string ⟨#[]⟩, .bool false]))
    go_enter Tryd.func6, Tryd.ntmps6
    go_wp2_with (fail)
    refine (IV.out _ (b1 w _)).mono ?_
    rintro e w1 ⟨rfl, hb1⟩
    have HB1 := Lib.hid (bs (b1 w _) hb1)
    clear hb1
    go_wp2_with (fail)
    go_ret2
    exact ⟨rfl, HB1.out⟩
  | true =>
    cases q2 with
    | false =>
      show Calls _ _ _ _ (GivesQ w (.tuple #[.string ⟨#[]⟩, .bool false]))
      go_enter Tryd.func6, Tryd.ntmps6
      go_wp2_with (fail)
      refine (IV.out _ (b1 w _)).mono ?_
      rintro e w1 ⟨rfl, hb1⟩
      have E1 := Lib.hid (carry hb1 (heap_alloc_new w _))
      obtain ⟨r1, -⟩ := rowc E1.out
      have HB1 := Lib.hid (bs (b1 w _) hb1)
      clear hb1
      go_wp2_with (fail)
      refine (IP.out _ HB1.out).mono ?_
      rintro e w2 ⟨rfl, hb2⟩
      have HB2 := Lib.hid (bs HB1.out hb2)
      clear hb2 r1
      go_wp2_with (fail)
      go_ret2
      exact ⟨rfl, HB2.out⟩
    | true =>
      rw [show (if (true && true) = true then ser (.mk k n s x ks vs) else []) = ser (.mk k n s x ks vs) from rfl, HZ.out]
      show Calls _ _ _ _ (GivesQ w (.tuple #[.string z, .bool true]))
      go_enter Tryd.func6, Tryd.ntmps6
      go_wp2_with (fail)
      refine (IV.out _ (b1 w _)).mono ?_
      rintro e w1 ⟨rfl, hb1⟩
      have E1 := Lib.hid (carry hb1 (heap_alloc_new w _))
      obtain ⟨r1, -⟩ := rowc E1.out
      have HB1 := Lib.hid (bs (b1 w _) hb1)
      clear hb1
      go_wp2_with (fail)
      refine (IP.out _ HB1.out).mono ?_
      rintro e w2 ⟨rfl, hb2⟩
      have E2 := Lib.hid (carry hb2 E1.out)
      obtain ⟨r2, -⟩ := rowc E2.out
      have HB2 := Lib.hid (bs HB1.out hb2)
      clear hb2 r1
      go_wp2_with (fail)
      refine (TX.out _ HB2.out).mono ?_
      rintro e w3 ⟨rfl, hb3⟩
      have HB3 := Lib.hid (bs HB2.out hb3)
      clear hb3
      go_wp2_with (fail)
      go_ret2
      exact ⟨rfl, HB3.out⟩

end Go.Proofs.YtdglmnmalfpipaaDoor.tree

/-
  Serialize of the project.
  Conditions: those that each theorem names.
-/
namespace Go.Proofs.YtdglmnmalfpipaaDoor.tree
open Go.ChangeShapes Go.WideShapes Go.ChangeAt Go.RowKit
set_option linter.unusedVariables false

set_option maxHeartbeats 1000000 in
set_option maxRecDepth 100000 in
theorem serialize_i (t : Tr) (hT : tot t ≤ 1048576) (w : World) (lo : Nat) (v : Value) (hE : prs.Env w) (h : TIn w (Nw lo w) t v) : Calls Tryd.prog 8 #[v] w (GivesQ w (seV t)) := by
  have IV : ∀ w', Below w.heap.size w w' → Calls Tryd.prog 19 #[v] w' (BoQ w' (valB t)) := fun w' hb => isValue_i t (by omega) w' _ v (hE.stays hb) (h.below' hb)
  have IP : ∀ w', Below w.heap.size w w' → Calls Tryd.prog 20 #[v] w' (GivesQ w' (.bool (plainB t))) := fun w' hb => isPlain_i t v w' lo (h.nwb hb) (by have := cnt_tot t h.fits; omega)
  have hsl := ser_len h.wd
  have WI : plainB t = true → ∀ w', Below w.heap.size w w' → Calls Tryd.prog 21 #[.pointer (some ⟨w'.heap.size, 0, none⟩), v] (w'.alloc (.cells #[.slice none 0 0, .int .i64 0, .int .i8 0] 46)) (WrQ w'.heap.size w'.heap.size (ser t) (w'.alloc (.cells #[.slice none 0 0, .int .i64 0, .int .i8 0] 46))) := fun hp w' hb => by
    have := write_i t w'.heap.size w'.heap.size [] (w'.alloc (.cells #[.slice none 0 0, .int .i64 0, .int .i8 0] 46)) v ((h.below' hb).lt'.below' (b1 w' _)) hp hT (Lib.fresh_isBuffer 46 5 w') (b1 w' _).size ⟨w, hE.1, hb.size, bs hb (b1 w' _)⟩ (by simp only [List.length_nil]; omega)
    rwa [List.nil_append] at this
  unfold seV seL seB
  obtain ⟨q1, HQ1⟩ : ∃ q, Hid (valB t = q) := ⟨_, Lib.hid rfl⟩
  obtain ⟨q2, HQ2⟩ : ∃ q, Hid (plainB t = q) := ⟨_, Lib.hid rfl⟩
  rw [HQ1.out] at IV ⊢
  rw [HQ2.out] at IP WI ⊢
  have IV := Lib.hid IV
  have IP := Lib.hid IP
  have WI := Lib.hid WI
  obtain ⟨k, n, s, x, ks, vs⟩ := t
  obtain ⟨A, c, rfl, hk, hin⟩ := h.out
  obtain ⟨L, HL⟩ : ∃ L, Hid (vs.length = L) := ⟨_, Lib.hid rfl⟩
  rw [HL.out] at IV IP WI ⊢
  obtain ⟨Z, HZ⟩ : ∃ z, Hid (ser (.mk k n s x ks vs) = z) := ⟨_, Lib.hid rfl⟩
  rw [HZ.out] at WI ⊢
  clear h hk hin hE hT HQ1 HQ2 hsl
  cases q1 with
  | false =>
    show Calls _ _ _ _ (GivesQ w (.tuple #[.string ⟨#[]⟩, .bool false]))
    go_enter Tryd.func8, Tryd.ntmps8
    go_wp2_with (fail)
    refine (IV.out _ (b1 w _)).mono ?_
    rintro e w1 ⟨rfl, hb1⟩
    have HB1 := Lib.hid (bs (b1 w _) hb1)
    clear hb1
    go_wp2_with (fail)
    go_ret2
    exact ⟨rfl, HB1.out⟩
  | true =>
    cases q2 with
    | false =>
      show Calls _ _ _ _ (GivesQ w (.tuple #[.string ⟨#[]⟩, .bool false]))
      go_enter Tryd.func8, Tryd.ntmps8
      go_wp2_with (fail)
      refine (IV.out _ (b1 w _)).mono ?_
      rintro e w1 ⟨rfl, hb1⟩
      have E1 := Lib.hid (carry hb1 (heap_alloc_new w _))
      obtain ⟨r1, -⟩ := rowc E1.out
      have HB1 := Lib.hid (bs (b1 w _) hb1)
      clear hb1
      go_wp2_with (fail)
      refine (IP.out _ HB1.out).mono ?_
      rintro e w2 ⟨rfl, hb2⟩
      have HB2 := Lib.hid (bs HB1.out hb2)
      clear hb2 r1
      go_wp2_with (fail)
      go_ret2
      exact ⟨rfl, HB2.out⟩
    | true =>
      have WJ := Lib.hid (fun w' hb => WI.out rfl w' hb)
      clear WI
      show Calls _ _ _ _ (GivesQ w (.tuple #[.string (bz Z), .bool true]))
      go_enter Tryd.func8, Tryd.ntmps8
      go_wp2_with (fail)
      refine (IV.out _ (b1 w _)).mono ?_
      rintro e w1 ⟨rfl, hb1⟩
      have E1 := Lib.hid (carry hb1 (heap_alloc_new w _))
      obtain ⟨r1, -⟩ := rowc E1.out
      have HB1 := Lib.hid (bs (b1 w _) hb1)
      clear hb1
      go_wp2_with (fail)
      refine (IP.out _ HB1.out).mono ?_
      rintro e w2 ⟨rfl, hb2⟩
      have E2 := Lib.hid (carry hb2 E1.out)
      have r2 : ∀ o j, (w2.alloc o).cell? ⟨w.heap.size, j, none⟩ = _ := fun o j => (rowc ((b1 w2 o).block _ (Array.getElem?_eq_some_iff.1 E2.out).1 |>.trans E2.out)).1 j
      have HB2 := Lib.hid (bs HB1.out hb2)
      clear hb2 r1
      go_wp2_with (fail)
      refine (WJ.out _ HB2.out).mono ?_
      rintro e w3 ⟨rfl, hq⟩
      have HQ := Lib.hid hq
      clear hq r2
      go_wp2_with (fail)
      refine (Tryd.Buffer_String w2.heap.size w2.heap.size Z _ HQ.out.bf).mono ?_
      rintro e w4 ⟨rfl, n4, rfl⟩
      go_wp2_with (fail)
      go_ret2
      exact ⟨rfl, (bs HB2.out ((b1 w2 _).trans HQ.out.below)).trans ⟨rfl, rfl, rfl, Nat.le_refl _, fun _ _ => rfl⟩⟩

end Go.Proofs.YtdglmnmalfpipaaDoor.tree

