/-
  What the texts behind this one use: 8 parts of one proof.
  Conditions: those that each theorem names.
-/
import Derived.Test.YtdglmnmalfpipaaGreatDoorSAB4
import Derived.Test.YtdglmnmalfpipaaGreatDoorSASIsPlain
import Derived.Test.YtdglmnmalfpipaaGreatDoorSAB3
import Derived.Test.YtdglmnmalfpipaaGreatDoorSASValidS
import Derived.Test.YtdglmnmalfpipaaGreatDoorSAB2
import Derived.Deep.LoopGhost
import Derived.Deep.DeepCutAuto
import Derived.Deep.RegionHeld3
import Derived.Deep.RegionWith
import Derived.Test.YtdglmnmalfpipaaGreatDoorSASPar
import Derived.Maps.AppendAt
import Derived.Test.YtdglmnmalfpipaaGreatDoorSASTreeCp
/-
  Serialize of the project.
  Conditions: those that each theorem names.
-/
namespace Go.Proofs.YtdglmnmalfpipaaGreatDoor.tree
open Go.ChangeShapes Go.WideShapes Go.ChangeAt Go.RowKit
set_option linter.unusedVariables false

set_option maxHeartbeats 1000000 in
set_option maxRecDepth 100000 in
theorem serialize_i (t : Tr) (hT : tot t ≤ 1048576) (w : World) (lo : Nat) (v : Value) (hE : prs.Env w) (h : TIn w (Nw lo w) t v) : Calls Tryz.prog 28 #[v] w (GivesQ w (seV t)) := by
  have IV : ∀ w', Below w.heap.size w w' → Calls Tryz.prog 32 #[v] w' (BoQ w' (valB t)) := fun w' hb => isValue_i t (by omega) w' _ v (hE.stays hb) (h.below' hb)
  have IP : ∀ w', Below w.heap.size w w' → Calls Tryz.prog 33 #[v] w' (GivesQ w' (.bool (plainB t))) := fun w' hb => isPlain_i t v w' lo (h.nwb hb) (by have := cnt_tot t h.fits; omega)
  have hsl := ser_len h.wd
  have WI : plainB t = true → ∀ w', Below w.heap.size w w' → Calls Tryz.prog 82 #[.pointer (some ⟨w'.heap.size, 0, none⟩), v] (w'.alloc (.cells #[.slice none 0 0, .int .i64 0, .int .i8 0] 110)) (WrQ w'.heap.size w'.heap.size (ser t) (w'.alloc (.cells #[.slice none 0 0, .int .i64 0, .int .i8 0] 110))) := fun hp w' hb => by
    have := write_i t w'.heap.size w'.heap.size [] (w'.alloc (.cells #[.slice none 0 0, .int .i64 0, .int .i8 0] 110)) v ((h.below' hb).lt'.below' (b1 w' _)) hp hT (Lib.fresh_isBuffer 110 5 w') (b1 w' _).size ⟨w, hE.1, hb.size, bs hb (b1 w' _)⟩ (by simp only [List.length_nil]; omega)
    rwa [List.nil_append] at this
  unfold seV seL seB
  obtain ⟨q1, HQ1⟩ : ∃ q, Hid (valB t = q) := ⟨_, Lib.hid rfl⟩
  obtain ⟨q2, HQ2⟩ : ∃ q, Hid (plainB t = q) := ⟨_, Lib.hid rfl⟩
  rw [HQ1.out] at IV ⊢
  rw [HQ2.out] at IP WI ⊢
  have IV := Lib.hid IV
  have IP := Lib.hid IP
  have WI := Lib.hid WI
  obtain ⟨k, n, s, x, ks, vs⟩ := t
  obtain ⟨A, c, rfl, hk, hin⟩ := h.out
  obtain ⟨L, HL⟩ : ∃ L, Hid (vs.length = L) := ⟨_, Lib.hid rfl⟩
  rw [HL.out] at IV IP WI ⊢
  obtain ⟨Z, HZ⟩ : ∃ z, Hid (ser (.mk k n s x ks vs) = z) := ⟨_, Lib.hid rfl⟩
  rw [HZ.out] at WI ⊢
  clear h hk hin hE hT HQ1 HQ2 hsl
  cases q1 with
  | false =>
    show Calls _ _ _ _ (GivesQ w (.tuple #[.string ⟨#[]⟩, .bool false]))
    go_enter Tryz.func28, Tryz.ntmps28
    go_wp2_with (fail)
    refine (IV.out _ (b1 w _)).mono ?_
    rintro e w1 ⟨rfl, hb1⟩
    have HB1 := Lib.hid (bs (b1 w _) hb1)
    clear hb1
    go_wp2_with (fail)
    go_ret2
    exact ⟨rfl, HB1.out⟩
  | true =>
    cases q2 with
    | false =>
      show Calls _ _ _ _ (GivesQ w (.tuple #[.string ⟨#[]⟩, .bool false]))
      go_enter Tryz.func28, Tryz.ntmps28
      go_wp2_with (fail)
      refine (IV.out _ (b1 w _)).mono ?_
      rintro e w1 ⟨rfl, hb1⟩
      have E1 := Lib.hid (carry hb1 (heap_alloc_new w _))
      obtain ⟨r1, -⟩ := rowc E1.out
      have HB1 := Lib.hid (bs (b1 w _) hb1)
      clear hb1
      go_wp2_with (fail)
      refine (IP.out _ HB1.out).mono ?_
      rintro e w2 ⟨rfl, hb2⟩
      have HB2 := Lib.hid (bs HB1.out hb2)
      clear hb2 r1
      go_wp2_with (fail)
      go_ret2
      exact ⟨rfl, HB2.out⟩
    | true =>
      have WJ := Lib.hid (fun w' hb => WI.out rfl w' hb)
      clear WI
      show Calls _ _ _ _ (GivesQ w (.tuple #[.string (bz Z), .bool true]))
      go_enter Tryz.func28, Tryz.ntmps28
      go_wp2_with (fail)
      refine (IV.out _ (b1 w _)).mono ?_
      rintro e w1 ⟨rfl, hb1⟩
      have E1 := Lib.hid (carry hb1 (heap_alloc_new w _))
      obtain ⟨r1, -⟩ := rowc E1.out
      have HB1 := Lib.hid (bs (b1 w _) hb1)
      clear hb1
      go_wp2_with (fail)
      refine (IP.out _ HB1.out).mono ?_
      rintro e w2 ⟨rfl, hb2⟩
      have E2 := Lib.hid (carry hb2 E1.out)
      have r2 : ∀ o j, (w2.alloc o).cell? ⟨w.heap.size, j, none⟩ = _ := fun o j => (rowc ((b1 w2 o).block _ (Array.getElem?_eq_some_iff.1 E2.out).1 |>.trans E2.out)).1 j
      have HB2 := Lib.hid (bs HB1.out hb2)
      clear hb2 r1
      go_wp2_with (fail)
      refine (WJ.out _ HB2.out).mono ?_
      rintro e w3 ⟨rfl, hq⟩
      have HQ := Lib.hid hq
      clear hq r2
      go_wp2_with (fail)
      refine (Tryz.Buffer_String w2.heap.size w2.heap.size Z _ HQ.out.bf).mono ?_
      rintro e w4 ⟨rfl, n4, rfl⟩
      go_wp2_with (fail)
      go_ret2
      exact ⟨rfl, (bs HB2.out ((b1 w2 _).trans HQ.out.below)).trans ⟨rfl, rfl, rfl, Nat.le_refl _, fun _ _ => rfl⟩⟩

end Go.Proofs.YtdglmnmalfpipaaGreatDoor.tree

/-
  The model's text of a value, and Serialize of the model.
  Conditions: those that each theorem names.
-/
namespace Go.Proofs.YtdglmnmalfpipaaGreatDoor.tree
open Go.ChangeShapes Go.WideShapes Go.ChangeAt Go.RowKit
set_option linter.unusedVariables false

set_option maxHeartbeats 1000000 in
set_option maxRecDepth 100000 in
theorem leaf_s (k n : Int) (s : ByteArray) (x : Int) (A : Option Addr) (L c : Nat) (hk : 0 ≤ k ∧ k ≤ 3) (hn : I64 n) (hs : s.size ≤ 1000000000) (w : World) :
    Calls Tryz.prog 87 #[vV k n s x A L c] w (GivesQ w (.string (bz (lf k n s)))) := by
  have FM := Lib.hid (fun w' => fmt.specFormat n hn.1 hn.2 w')
  have FS := Lib.hid (fun w' => fmt.specFormat (s.size : Int) (by omega) (by omega) w')
  have hz := itoa_sz n hn
  have hy := itoa_sz (s.size : Int) (by unfold I64; omega)
  simp only [bz_num] at FM FS
  have hc : k = 0 ∨ k = 1 ∨ k = 2 ∨ k = 3 := by omega
  clear hk hn
  rcases hc with rfl | rfl | rfl | rfl
  · show Calls _ _ _ _ (GivesQ w (.string ⟨#[78, 59]⟩))
    go_enter Tryz.func87, Tryz.ntmps87
    go_wp2
    go_ret
    exact ⟨rfl, b1 _ _⟩
  · rw [show lf 1 n s = [98, 58] ++ (Lib.itoa n ++ [59]) from rfl, ← seq3]
    obtain ⟨z, HZ⟩ : ∃ z, Hid (bz (Lib.itoa n) = z) := ⟨_, Lib.hid rfl⟩
    rw [HZ.out] at FM hz ⊢
    show Calls _ _ _ _ (GivesQ w (.string (⟨#[98, 58]⟩ ++ z ++ ⟨#[59]⟩)))
    go_enter Tryz.func87, Tryz.ntmps87
    go_wp2_with (fail)
    refine (FM.out _).mono ?_
    rintro e w1 ⟨rfl, hb1⟩
    have HB1 := Lib.hid (bs (b1 w _) hb1)
    clear hb1
    go_wp2_with (fail)
    go_ret
    exact ⟨rfl, HB1.out⟩
  · rw [show lf 2 n s = [105, 58] ++ (Lib.itoa n ++ [59]) from rfl, ← seq3]
    obtain ⟨z, HZ⟩ : ∃ z, Hid (bz (Lib.itoa n) = z) := ⟨_, Lib.hid rfl⟩
    rw [HZ.out] at FM hz ⊢
    show Calls _ _ _ _ (GivesQ w (.string (⟨#[105, 58]⟩ ++ z ++ ⟨#[59]⟩)))
    go_enter Tryz.func87, Tryz.ntmps87
    go_wp2_with (fail)
    refine (FM.out _).mono ?_
    rintro e w1 ⟨rfl, hb1⟩
    have HB1 := Lib.hid (bs (b1 w _) hb1)
    clear hb1
    go_wp2_with (fail)
    go_ret
    exact ⟨rfl, HB1.out⟩
  · rw [show lf 3 n s = [115, 58] ++ (Lib.itoa s.size ++ ([58] ++ (s.data.toList ++ [59]))) from rfl, ← seq5, bz_of]
    obtain ⟨z, HZ⟩ : ∃ z, Hid (bz (Lib.itoa s.size) = z) := ⟨_, Lib.hid rfl⟩
    rw [HZ.out] at FS hy ⊢
    show Calls _ _ _ _ (GivesQ w (.string (⟨#[115, 58]⟩ ++ z ++ ⟨#[58]⟩ ++ s ++ ⟨#[59]⟩)))
    obtain ⟨W0, HW0⟩ : ∃ W, Hid (W = w.alloc (.cells #[.int .i64 3, .int .i64 n, .string s, .int .i64 x, .slice A L c] IV)) := ⟨_, Lib.hid rfl⟩
    have E0 : Hid (W0.heap[w.heap.size]? = some (.cells #[.int .i64 3, .int .i64 n, .string s, .int .i64 x, .slice A L c] IV (0, 0))) := Lib.hid (by rw [HW0.out]; exact heap_alloc_new w _)
    have HB0 : Hid (Below w.heap.size w W0) := Lib.hid (by rw [HW0.out]; exact b1 w _)
    have z0 : W0.cell? ⟨w.heap.size, 2, none⟩ = some (.string s) := (rowc E0.out).1 2
    go_enter Tryz.func87, Tryz.ntmps87
    go_wp2_with (fail)
    rw [← HW0.out]
    go_region_with (first
      | (go_at_call 158; refine (FS.out _).mono ?_
         rintro e w1 ⟨rfl, hb1⟩
         have hbx := (bs ((Below.refl W0.heap.size W0).drew) hb1)
         have z2 : w1.cell? ⟨w.heap.size, 2, none⟩ = some (.string s) := (rowc (carry hbx E0.out)).1 2
         have HB1 := Lib.hid (bs HB0.out hbx)
         clear hb1 hbx))
    all_goals
      go_wp2_with (fail)
      go_ret
      exact ⟨rfl, HB1.out⟩

/-- A key's value. -/
theorem leaf_key (y : Ky) (hy : I64 y.num ∧ y.str.size ≤ 1000000000) (w : World) :
    Calls Tryz.prog 87 #[if y.text then vV 3 0 y.str 0 none 0 0 else vV 2 y.num ⟨#[]⟩ 0 none 0 0] w (GivesQ w (.string (bz (serK y)))) := by
  unfold serK
  cases hb : y.text with
  | true => exact leaf_s 3 0 y.str 0 none 0 0 (by decide) (by unfold I64; omega) hy.2 w
  | false => exact leaf_s 2 y.num ⟨#[]⟩ 0 none 0 0 (by decide) hy.1 (by simp [ByteArray.size]) w

def SeS (t : Tr) : Prop := tot t ≤ 1000000000 → ∀ (w : World) (S : Nat → Prop) (v : Value), TIn w S t v → Calls Tryz.prog 87 #[v] w (GivesQ w (.string (bz (ser t))))

set_option maxHeartbeats 2000000 in
set_option maxRecDepth 100000 in
theorem text_s : ∀ t, SeS t := Tr.ind fun k n s x ks vs ih hT w S v h => by
  have hwd := wd_sers h.wd
  obtain ⟨A, c, rfl, hk, hin⟩ := h.out
  clear h
  rw [tot] at hT
  rw [ser_mk]
  by_cases hkk : 0 ≤ k ∧ k ≤ 3
  · rw [if_pos hkk]
    exact leaf_s k n s x A vs.length c hkk hk.2.1 (by omega) w
  rw [if_neg hkk]
  have h0 : ¬ k = 0 := by omega
  have h1 : ¬ k = 1 := by omega
  have h2 : ¬ k = 2 := by omega
  have h3 : ¬ k = 3 := by omega
  have k0 : (k == 0) = false := by rw [beq_eq_false_iff_ne]; exact h0
  have k1 : (k == 1) = false := by rw [beq_eq_false_iff_ne]; exact h1
  have k2 : (k == 2) = false := by rw [beq_eq_false_iff_ne]; exact h2
  have k3 : (k == 3) = false := by rw [beq_eq_false_iff_ne]; exact h3
  obtain ⟨L, HL⟩ : ∃ L, Hid (L = vs.length) := ⟨_, Lib.hid rfl⟩
  have hhd := hd_len vs.length x hin.2.1 hk.2.2.1
  have F1 := Lib.hid (fun w' => fmt.specFormat (L : Int) (by have := HL.out; omega) (by have := HL.out; omega) w')
  have F2 := Lib.hid (fun w' => fmt.specFormat x hk.2.2.1.1 hk.2.2.1.2 w')
  have hz1 := itoa_sz (L : Int) (by have := HL.out; unfold I64; omega)
  have hz2 := itoa_sz x hk.2.2.1
  simp only [bz_num] at F1 F2
  obtain ⟨T, HT⟩ : ∃ T, Hid (hd L x ++ sers ks vs = T) := ⟨_, Lib.hid rfl⟩
  have hTl : T.length ≤ 100000000000 := by rw [← HT.out, List.length_append, HL.out]; omega
  obtain ⟨Z, HZ9⟩ : ∃ Z, Hid (bz (hd L x) = Z) := ⟨_, Lib.hid rfl⟩
  have HW : Hid (bz [97, 58] ++ bz (Lib.itoa L) ++ bz [58] ++ bz (Lib.itoa x) ++ bz [123] = Z) := Lib.hid ((seq_hd L x).trans HZ9.out)
  obtain ⟨y1, HZ1⟩ : ∃ z, Hid (bz (Lib.itoa L) = z) := ⟨_, Lib.hid rfl⟩
  obtain ⟨y2, HZ2⟩ : ∃ z, Hid (bz (Lib.itoa x) = z) := ⟨_, Lib.hid rfl⟩
  rw [HZ1.out] at F1 hz1 HW
  rw [HZ2.out] at F2 hz2 HW
  have hLm : L ≤ 1000000000 := by rw [HL.out]; omega
  have HI := Lib.hid hin
  have HTOT : Hid (tots ks vs ≤ 1000000000) := Lib.hid (by omega)
  rw [← HL.out, ← List.append_assoc, HT.out, ← bz_app]
  clear hin hk hwd hhd hT hkk
  obtain ⟨W0, HW0⟩ : ∃ W, Hid (W = w.alloc (.cells #[.int .i64 k, .int .i64 n, .string s, .int .i64 x, .slice A L c] IV)) := ⟨_, Lib.hid rfl⟩
  have E0 : Hid (W0.heap[w.heap.size]? = some (.cells #[.int .i64 k, .int .i64 n, .string s, .int .i64 x, .slice A L c] IV (0, 0))) := Lib.hid (by rw [HW0.out]; exact heap_alloc_new w _)
  have HB0 : Hid (Below w.heap.size w W0) := Lib.hid (by rw [HW0.out]; exact b1 w _)
  have z0 : W0.cell? ⟨w.heap.size, 4, none⟩ = some (.slice A L c) := (rowc E0.out).1 4
  have z1 : W0.cell? ⟨w.heap.size, 3, none⟩ = some (.int .i64 x) := (rowc E0.out).1 3
  have s1 : ¬ 9223372036854775807 < 2 + y1.size := by omega
  have s2 : ¬ 9223372036854775807 < 2 + y1.size + 1 := by omega
  have s3 : ¬ 9223372036854775807 < 2 + y1.size + 1 + y2.size := by omega
  have s4 : ¬ 9223372036854775807 < 2 + y1.size + 1 + y2.size + 1 := by omega
  show Calls _ _ _ _ (GivesQ w (.string (bz T ++ ⟨#[125]⟩)))
  go_enter Tryz.func87, Tryz.ntmps87
  go_upto_region 10 with fail
  go_cut [3] (fun v wx => v = .string Z ∧ Below w.heap.size w wx ∧ wx.heap[w.heap.size]? = some (.cells #[.int .i64 k, .int .i64 n, .string s, .int .i64 x, .slice A L c] IV (0, 0)))
  case first =>
    rw [← HW0.out]
    -- HELD S10
    refine wp_region_held_drew (S := (fun w' => w'.cell? ⟨w.heap.size, 4, none⟩ = some (.slice A L c) ∧ w'.cell? ⟨w.heap.size, 3, none⟩ = some (.int .i64 x))) (by kernel_rfl) ?_ (fun hHeld => ?_)
    · (try dsimp only) <;> go_keep
    refine wpAnyH_take (i := 0) (v := ?_) rfl (by kernel_rfl) (by kernel_rfl) (by kernel_rfl) (fun _ _ _ h => h) (Or.inl ⟨by kernel_rfl, ?_⟩) (by assumption) ?_
    rotate_left
    · (intro w hSw; (try dsimp only at hSw); go_split_ands; go_simp; try (with_reducible rfl))
    try simp only [Act.put, List.setIfInBounds_toArray, List.set_cons_zero, List.set_cons_succ, List.getElem_toArray, List.getElem_cons_zero]
    refine wpAnyH_take (i := 1) (v := ?_) rfl (by kernel_rfl) (by kernel_rfl) (by kernel_rfl) (fun _ _ _ h => h) (Or.inl ⟨by kernel_rfl, ?_⟩) (by assumption) ?_
    rotate_left
    · (intro w hSw; (try dsimp only at hSw); go_split_ands; go_simp; try (with_reducible rfl))
    try simp only [Act.put, List.setIfInBounds_toArray, List.set_cons_zero, List.set_cons_succ, List.getElem_toArray, List.getElem_cons_zero, List.getElem_cons_succ]
    refine wpAnyH_take (i := 2) (v := ?_) rfl (by kernel_rfl) (by kernel_rfl) (by kernel_rfl) (fun _ _ _ h => h) (Or.inl ⟨by kernel_rfl, ?_⟩) (by assumption) ?_
    rotate_left
    · (intro w hSw; (try dsimp only at hSw); go_split_ands; go_simp; try (with_reducible rfl))
    try simp only [Act.put, List.setIfInBounds_toArray, List.set_cons_zero, List.set_cons_succ, List.getElem_toArray, List.getElem_cons_zero, List.getElem_cons_succ]
    refine wpAnyH_take (i := 6) (v := ?_) rfl (by kernel_rfl) (by kernel_rfl) (by kernel_rfl) (fun _ _ _ h => h) (Or.inl ⟨by kernel_rfl, ?_⟩) (by assumption) ?_
    rotate_left
    · (intro w hSw; (try dsimp only at hSw); go_split_ands; go_simp; try (with_reducible rfl))
    try simp only [Act.put, List.setIfInBounds_toArray, List.set_cons_zero, List.set_cons_succ, List.getElem_toArray, List.getElem_cons_zero, List.getElem_cons_succ]
    refine wpAnyH_take (i := 7) (v := ?_) rfl (by kernel_rfl) (by kernel_rfl) (by kernel_rfl) (fun _ _ _ h => h) (Or.inl ⟨by kernel_rfl, ?_⟩) (by assumption) ?_
    rotate_left
    · (intro w hSw; (try dsimp only at hSw); go_split_ands; go_simp; try (with_reducible rfl))
    try simp only [Act.put, List.setIfInBounds_toArray, List.set_cons_zero, List.set_cons_succ, List.getElem_toArray, List.getElem_cons_zero, List.getElem_cons_succ]
    refine wpAnyH_ready (rs := [3]) (by kernel_rfl) (by simp) ?_
    refine AllReadyH.cons rfl (fun K hK => ?_) AllReadyH.nil
    go_simp
    go_at_call 158
    refine (F1.out _).mono ?_
    rintro e w1 ⟨rfl, hb1⟩
    have hbx := (bs ((Below.refl W0.heap.size W0).drew) hb1)
    have E1 := Lib.hid (carry hbx E0.out)
    have HB1 := Lib.hid (bs HB0.out hbx)
    have a0 : w1.cell? ⟨w.heap.size, 4, none⟩ = some (.slice A L c) := (rowc E1.out).1 4
    have a1 : w1.cell? ⟨w.heap.size, 3, none⟩ = some (.int .i64 x) := (rowc E1.out).1 3
    clear hb1 hbx
    try go_wp2_with (fail)
    refine hK.out _ _ ?_ (fun hHeld => ?_)
    · ((try dsimp only); first | with_reducible exact ⟨z0, z1⟩ | with_reducible exact ⟨a0, a1⟩ | with_reducible exact ⟨b0, b1⟩ | go_keep)
    clear hK K
    try simp only [Act.put, List.setIfInBounds_toArray, List.set_cons_zero, List.set_cons_succ, List.getElem_toArray, List.getElem_cons_zero, List.getElem_cons_succ]
    refine wpAnyH_take (i := 4) (v := ?_) rfl (by kernel_rfl) (by kernel_rfl) (by kernel_rfl) (fun _ _ _ h => h) (Or.inl ⟨by kernel_rfl, ?_⟩) (by assumption) ?_
    rotate_left
    · (intro w hSw; (try dsimp only at hSw); go_split_ands; go_simp; try (with_reducible rfl))
    try simp only [Act.put, List.setIfInBounds_toArray, List.set_cons_zero, List.set_cons_succ, List.getElem_toArray, List.getElem_cons_zero, List.getElem_cons_succ]
    refine wpAnyH_take (i := 5) (v := ?_) rfl (by kernel_rfl) (by kernel_rfl) (by kernel_rfl) (fun _ _ _ h => h) (Or.inl ⟨by kernel_rfl, ?_⟩) (by assumption) ?_
    rotate_left
    · (intro w hSw; (try dsimp only at hSw); go_split_ands; go_simp; try (with_reducible rfl))
    try simp only [Act.put, List.setIfInBounds_toArray, List.set_cons_zero, List.set_cons_succ, List.getElem_toArray, List.getElem_cons_zero, List.getElem_cons_succ]
    refine wpAnyH_ready (rs := [8]) (by kernel_rfl) (by simp) ?_
    refine AllReadyH.cons rfl (fun K hK => ?_) AllReadyH.nil
    go_simp
    go_at_call 158
    refine (F2.out _).mono ?_
    rintro e w2 ⟨rfl, hb2⟩
    have E2 := Lib.hid (carry hb2 E1.out)
    have HB2 := Lib.hid (bs HB1.out hb2)
    have b0 : w2.cell? ⟨w.heap.size, 4, none⟩ = some (.slice A L c) := (rowc E2.out).1 4
    have b1 : w2.cell? ⟨w.heap.size, 3, none⟩ = some (.int .i64 x) := (rowc E2.out).1 3
    clear hb2
    try go_wp2_with (fail)
    refine hK.out _ _ ?_ (fun hHeld => ?_)
    · ((try dsimp only); first | with_reducible exact ⟨z0, z1⟩ | with_reducible exact ⟨a0, a1⟩ | with_reducible exact ⟨b0, b1⟩ | go_keep)
    clear hK K
    try simp only [Act.put, List.setIfInBounds_toArray, List.set_cons_zero, List.set_cons_succ, List.getElem_toArray, List.getElem_cons_zero, List.getElem_cons_succ]
    refine wpAnyH_take (i := 9) (v := ?_) rfl (by kernel_rfl) (by kernel_rfl) (by kernel_rfl) (fun _ _ _ h => h) (Or.inl ⟨by kernel_rfl, ?_⟩) (by assumption) ?_
    rotate_left
    · (intro w hSw; (try dsimp only at hSw); go_split_ands; go_simp; try (with_reducible rfl))
    try simp only [Act.put, List.setIfInBounds_toArray, List.set_cons_zero, List.set_cons_succ, List.getElem_toArray, List.getElem_cons_zero, List.getElem_cons_succ]
    refine wpAnyH_take (i := 10) (v := ?_) rfl (by kernel_rfl) (by kernel_rfl) (by kernel_rfl) (fun _ _ _ h => h) (Or.inl ⟨by kernel_rfl, ?_⟩) (by assumption) ?_
    rotate_left
    · (intro w hSw; (try dsimp only at hSw); go_split_ands; go_simp; try (with_reducible rfl))
    try simp only [Act.put, List.setIfInBounds_toArray, List.set_cons_zero, List.set_cons_succ, List.getElem_toArray, List.getElem_cons_zero, List.getElem_cons_succ]
    refine wpAnyH_ready (rs := [11]) (by kernel_rfl) (by simp) ?_
    refine AllReadyH.cons rfl (fun K hK => ?_) AllReadyH.nil
    go_simp
    refine hK.out _ _ ?_ (fun hHeld => ?_)
    · ((try dsimp only); first | with_reducible exact ⟨z0, z1⟩ | with_reducible exact ⟨a0, a1⟩ | with_reducible exact ⟨b0, b1⟩ | go_keep)
    clear hK K
    try simp only [Act.put, List.setIfInBounds_toArray, List.set_cons_zero, List.set_cons_succ, List.getElem_toArray, List.getElem_cons_zero, List.getElem_cons_succ]
    refine wpAnyH_done (by kernel_rfl) ?_ _
    go_wp2_with (fail)
    go_meet
    exact ⟨by rw [← HW.out]; rfl, HB2.out, E2.out⟩
    -- DLEH
  case rest =>
  obtain ⟨rfl, hb2, hE2⟩ := hcut
  have HB2 := Lib.hid hb2
  have E2 := Lib.hid hE2
  clear hb2 hE2 z0 z1
  go_wp2_with (fail)
  go_loopg [3, 4] (L + 1) (fun gk a i wr => ∃ (j : Nat) (l : List UInt8) (z : ByteArray), i = .int .i64 j ∧ a = .string z ∧ Hid (bz l = z) ∧ gk + j = L + 1 ∧ j ≤ L ∧ Hid (l ++ sers (ks.drop j) (vs.drop j) = T) ∧ Hid (wr.heap[w.heap.size]? = some (.cells #[.int .i64 k, .int .i64 n, .string s, .int .i64 x, .slice A L c] IV (0, 0))) ∧ Below w.heap.size w wr)
  case atStart => exact ⟨0, hd L x, _, rfl, rfl, HZ9, by omega, by omega, Lib.hid (by rw [List.drop_zero, List.drop_zero]; exact HT.out), E2, HB2.out⟩
  case round =>
    obtain ⟨j, l, z, rfl, rfl, HZ, hgj, hjL, HQ, HE, hb⟩ := hrel
    have HB := Lib.hid hb
    clear hb
    obtain ⟨r0, -⟩ := rowc HE.out
    have hzl : z.size ≤ 100000000000 := by
      rw [← HZ.out, bz_size]
      have := congrArg List.length HQ.out
      rw [List.length_append] at this
      omega
    by_cases hlt : j < L
    · obtain ⟨a, ⟨yb, yn, ys⟩, k', n', s', x', ks', vs', A1, c1, rfl, hS, hky, hvs, ht, hyb, hkb, hin', hcell⟩ := (HI.out.below HB.out).item (i := j) (by rw [← HL.out]; exact hlt)
      have htm := tots_item hky hvs
      have hto := HTOT.out
      have hys : ys.size ≤ 1000000000 := by have : (Ky.mk yb yn ys).str.size = ys.size := rfl; omega
      have KV := Lib.hid (keyValue_s ⟨yb, yn, ys⟩)
      have LK := Lib.hid (leaf_key ⟨yb, yn, ys⟩ ⟨hyb.1, hys⟩)
      have ihj : ∀ w' : World, Below wr.heap.size wr w' → Calls Tryz.prog 87 #[vV k' n' s' x' A1 vs'.length c1] w' (GivesQ w' (.string (bz (ser (.mk k' n' s' x' ks' vs'))))) := fun w' hb' => ih _ (List.mem_of_getElem? hvs) (by omega) w' S _ (ht.below' hb')
      have hkl : (bz (serK ⟨yb, yn, ys⟩)).size ≤ 100000000000 := by
        have := serK_len ⟨yb, yn, ys⟩ hyb
        rw [bz_size]
        simp only at this
        omega
      have hvl : (bz (ser (.mk k' n' s' x' ks' vs'))).size ≤ 100000000000 := by
        have := ser_len ht.wd
        rw [bz_size]
        omega
      have HD := Lib.hid ((congrArg (l ++ ·) (sers_drop hky hvs)).symm.trans HQ.out)
      obtain ⟨u, HU⟩ : ∃ u, Hid (bz (serK ⟨yb, yn, ys⟩) = u) := ⟨_, Lib.hid rfl⟩
      obtain ⟨q, HQ2⟩ : ∃ u, Hid (bz (ser (.mk k' n' s' x' ks' vs')) = u) := ⟨_, Lib.hid rfl⟩
      have HJ : Hid (z ++ u ++ q = bz (l ++ (serK ⟨yb, yn, ys⟩ ++ ser (.mk k' n' s' x' ks' vs')))) := Lib.hid (by rw [← HZ.out, ← HU.out, ← HQ2.out, seq3])
      obtain ⟨Y, HY⟩ : ∃ Y, Hid (z ++ u ++ q = Y) := ⟨_, Lib.hid rfl⟩
      rw [HU.out] at LK hkl
      rw [HQ2.out] at ihj hvl
      obtain ⟨L1, HL1⟩ : ∃ L1, Hid (L1 = vs'.length) := ⟨_, Lib.hid rfl⟩
      rw [← HL1.out] at hcell ihj
      have IH := Lib.hid ihj
      obtain ⟨V, HV⟩ : ∃ V, Hid ((if (Ky.mk yb yn ys).text = true then vV 3 0 (Ky.mk yb yn ys).str 0 none 0 0 else vV 2 (Ky.mk yb yn ys).num ⟨#[]⟩ 0 none 0 0) = V) := ⟨_, Lib.hid rfl⟩
      rw [HV.out] at KV LK
      clear hky hvs ht hin' hyb hkb hS htm hys hto ihj
      have HC := Lib.hid hcell
      have g0 : wr.cell? ⟨w.heap.size, 4, none⟩ = some (.slice (some a) L c) := r0 4
      have g1 : wr.cell? (a.add (j * 8)) = some (.bool yb) := hcell.c0
      have g2 : wr.cell? ⟨(a.add (j * 8)).block, (a.add (j * 8)).off + 1, none⟩ = some (.int .i64 yn) := hcell.c1
      have g3 : wr.cell? ⟨(a.add (j * 8)).block, (a.add (j * 8)).off + 2, none⟩ = some (.string ys) := hcell.c2
      have g4 := hcell.c3
      have g5 := hcell.c4
      have g6 := hcell.c5
      have g7 := hcell.c6
      have g8 := hcell.c7
      clear r0 hcell
      have s5 : ¬ 9223372036854775807 < z.size + u.size := by omega
      have s6 : ¬ 9223372036854775807 < z.size + u.size + q.size := by omega
      go_upto_region 14 with fail
      -- HELD S14
      refine wp_region_held_drew (S := (fun w' => w'.cell? ⟨w.heap.size, 4, none⟩ = some (.slice (some a) L c) ∧ w'.cell? (a.add (j * 8)) = some (.bool yb) ∧ w'.cell? ⟨(a.add (j * 8)).block, (a.add (j * 8)).off + 1, none⟩ = some (.int .i64 yn) ∧ w'.cell? ⟨(a.add (j * 8)).block, (a.add (j * 8)).off + 2, none⟩ = some (.string ys) ∧ w'.cell? ⟨(a.add (j * 8)).block, (a.add (j * 8)).off + 3, none⟩ = some (.int .i64 k') ∧ w'.cell? ⟨(a.add (j * 8)).block, (a.add (j * 8)).off + 4, none⟩ = some (.int .i64 n') ∧ w'.cell? ⟨(a.add (j * 8)).block, (a.add (j * 8)).off + 5, none⟩ = some (.string s') ∧ w'.cell? ⟨(a.add (j * 8)).block, (a.add (j * 8)).off + 6, none⟩ = some (.int .i64 x') ∧ w'.cell? ⟨(a.add (j * 8)).block, (a.add (j * 8)).off + 7, none⟩ = some (.slice A1 L1 c1))) (by kernel_rfl) ?_ (fun hHeld => ?_)
      · (try dsimp only) <;> go_keep
      refine wpAnyH_take (i := 0) (v := ?_) rfl (by kernel_rfl) (by kernel_rfl) (by kernel_rfl) (fun _ _ _ h => h) (Or.inl ⟨by kernel_rfl, ?_⟩) (by assumption) ?_
      rotate_left
      · (intro w hSw; (try dsimp only at hSw); go_split_ands; go_simp; try (with_reducible rfl))
      try simp only [Act.put, List.setIfInBounds_toArray, List.set_cons_zero, List.set_cons_succ, List.getElem_toArray, List.getElem_cons_zero]
      refine wpAnyH_take (i := 1) (v := ?_) rfl (by kernel_rfl) (by kernel_rfl) (by kernel_rfl) (fun _ _ _ h => h) (Or.inl ⟨by kernel_rfl, ?_⟩) (by assumption) ?_
      rotate_left
      · (intro w hSw; (try dsimp only at hSw); go_split_ands; go_simp; try (with_reducible rfl))
      try simp only [Act.put, List.setIfInBounds_toArray, List.set_cons_zero, List.set_cons_succ, List.getElem_toArray, List.getElem_cons_zero, List.getElem_cons_succ]
      refine wpAnyH_take (i := 2) (v := ?_) rfl (by kernel_rfl) (by kernel_rfl) (by kernel_rfl) (fun _ _ _ h => h) (Or.inl ⟨by kernel_rfl, ?_⟩) (by assumption) ?_
      rotate_left
      · (intro w hSw; (try dsimp only at hSw); go_split_ands; go_simp; try (with_reducible rfl))
      try simp only [Act.put, List.setIfInBounds_toArray, List.set_cons_zero, List.set_cons_succ, List.getElem_toArray, List.getElem_cons_zero, List.getElem_cons_succ]
      refine wpAnyH_take (i := 3) (v := ?_) rfl (by kernel_rfl) (by kernel_rfl) (by kernel_rfl) (fun _ _ _ h => h) (Or.inl ⟨by kernel_rfl, ?_⟩) (by assumption) ?_
      rotate_left
      · (intro w hSw; (try dsimp only at hSw); go_split_ands; go_simp; try (with_reducible rfl))
      try simp only [Act.put, List.setIfInBounds_toArray, List.set_cons_zero, List.set_cons_succ, List.getElem_toArray, List.getElem_cons_zero, List.getElem_cons_succ]
      refine wpAnyH_take (i := 4) (v := ?_) rfl (by kernel_rfl) (by kernel_rfl) (by kernel_rfl) (fun _ _ _ h => h) (Or.inl ⟨by kernel_rfl, ?_⟩) (by assumption) ?_
      rotate_left
      · (intro w hSw; (try dsimp only at hSw); go_split_ands; go_simp; try (with_reducible rfl))
      try simp only [Act.put, List.setIfInBounds_toArray, List.set_cons_zero, List.set_cons_succ, List.getElem_toArray, List.getElem_cons_zero, List.getElem_cons_succ]
      refine wpAnyH_take (i := 5) (v := ?_) rfl (by kernel_rfl) (by kernel_rfl) (by kernel_rfl) (fun _ _ _ h => h) (Or.inl ⟨by kernel_rfl, ?_⟩) (by assumption) ?_
      rotate_left
      · (intro w hSw; (try dsimp only at hSw); go_split_ands; go_simp; try (with_reducible rfl))
      try simp only [Act.put, List.setIfInBounds_toArray, List.set_cons_zero, List.set_cons_succ, List.getElem_toArray, List.getElem_cons_zero, List.getElem_cons_succ]
      refine wpAnyH_take (i := 6) (v := ?_) rfl (by kernel_rfl) (by kernel_rfl) (by kernel_rfl) (fun _ _ _ h => h) (Or.inl ⟨by kernel_rfl, ?_⟩) (by assumption) ?_
      rotate_left
      · (intro w hSw; (try dsimp only at hSw); go_split_ands; go_simp; try (with_reducible rfl))
      try simp only [Act.put, List.setIfInBounds_toArray, List.set_cons_zero, List.set_cons_succ, List.getElem_toArray, List.getElem_cons_zero, List.getElem_cons_succ]
      refine wpAnyH_take (i := 10) (v := ?_) rfl (by kernel_rfl) (by kernel_rfl) (by kernel_rfl) (fun _ _ _ h => h) (Or.inl ⟨by kernel_rfl, ?_⟩) (by assumption) ?_
      rotate_left
      · (intro w hSw; (try dsimp only at hSw); go_split_ands; go_simp; try (with_reducible rfl))
      try simp only [Act.put, List.setIfInBounds_toArray, List.set_cons_zero, List.set_cons_succ, List.getElem_toArray, List.getElem_cons_zero, List.getElem_cons_succ]
      refine wpAnyH_take (i := 11) (v := ?_) rfl (by kernel_rfl) (by kernel_rfl) (by kernel_rfl) (fun _ _ _ h => h) (Or.inl ⟨by kernel_rfl, ?_⟩) (by assumption) ?_
      rotate_left
      · (intro w hSw; (try dsimp only at hSw); go_split_ands; go_simp; try (with_reducible rfl))
      try simp only [Act.put, List.setIfInBounds_toArray, List.set_cons_zero, List.set_cons_succ, List.getElem_toArray, List.getElem_cons_zero, List.getElem_cons_succ]
      refine wpAnyH_take (i := 12) (v := ?_) rfl (by kernel_rfl) (by kernel_rfl) (by kernel_rfl) (fun _ _ _ h => h) (Or.inl ⟨by kernel_rfl, ?_⟩) (by assumption) ?_
      rotate_left
      · (intro w hSw; (try dsimp only at hSw); go_split_ands; go_simp; try (with_reducible rfl))
      try simp only [Act.put, List.setIfInBounds_toArray, List.set_cons_zero, List.set_cons_succ, List.getElem_toArray, List.getElem_cons_zero, List.getElem_cons_succ]
      refine wpAnyH_take (i := 13) (v := ?_) rfl (by kernel_rfl) (by kernel_rfl) (by kernel_rfl) (fun _ _ _ h => h) (Or.inl ⟨by kernel_rfl, ?_⟩) (by assumption) ?_
      rotate_left
      · (intro w hSw; (try dsimp only at hSw); go_split_ands; go_simp; try (with_reducible rfl))
      try simp only [Act.put, List.setIfInBounds_toArray, List.set_cons_zero, List.set_cons_succ, List.getElem_toArray, List.getElem_cons_zero, List.getElem_cons_succ]
      refine wpAnyH_take (i := 14) (v := ?_) rfl (by kernel_rfl) (by kernel_rfl) (by kernel_rfl) (fun _ _ _ h => h) (Or.inl ⟨by kernel_rfl, ?_⟩) (by assumption) ?_
      rotate_left
      · (intro w hSw; (try dsimp only at hSw); go_split_ands; go_simp; try (with_reducible rfl))
      try simp only [Act.put, List.setIfInBounds_toArray, List.set_cons_zero, List.set_cons_succ, List.getElem_toArray, List.getElem_cons_zero, List.getElem_cons_succ]
      refine wpAnyH_take (i := 15) (v := ?_) rfl (by kernel_rfl) (by kernel_rfl) (by kernel_rfl) (fun _ _ _ h => h) (Or.inl ⟨by kernel_rfl, ?_⟩) (by assumption) ?_
      rotate_left
      · (intro w hSw; (try dsimp only at hSw); go_split_ands; go_simp; try (with_reducible rfl))
      try simp only [Act.put, List.setIfInBounds_toArray, List.set_cons_zero, List.set_cons_succ, List.getElem_toArray, List.getElem_cons_zero, List.getElem_cons_succ]
      refine wpAnyH_ready (rs := [7]) (by kernel_rfl) (by simp) ?_
      refine AllReadyH.cons rfl (fun K hK => ?_) AllReadyH.nil
      go_simp
      go_at_call 159
      refine (KV.out _).mono ?_
      rintro e w3 ⟨rfl, hb⟩
      have HB3 := Lib.hid (bs ((Below.refl wr.heap.size wr).drew) hb)
      have st : ∀ (a : Addr) (u : Value), wr.cell? a = some u → w3.cell? a = some u := fun a u hu => cell_stays (fun hlt => HB3.out.block _ hlt) hu
      have a0 : w3.cell? ⟨w.heap.size, 4, none⟩ = some (.slice (some a) L c) := (rowc (carry HB3.out HE.out)).1 4
      have a1 : w3.cell? (a.add (j * 8)) = some (.bool yb) := st _ _ HC.out.c0
      have a2 : w3.cell? ⟨(a.add (j * 8)).block, (a.add (j * 8)).off + 1, none⟩ = some (.int .i64 yn) := st _ _ HC.out.c1
      have a3 : w3.cell? ⟨(a.add (j * 8)).block, (a.add (j * 8)).off + 2, none⟩ = some (.string ys) := st _ _ HC.out.c2
      have a4 : w3.cell? ⟨(a.add (j * 8)).block, (a.add (j * 8)).off + 3, none⟩ = some (.int .i64 k') := st _ _ HC.out.c3
      have a5 : w3.cell? ⟨(a.add (j * 8)).block, (a.add (j * 8)).off + 4, none⟩ = some (.int .i64 n') := st _ _ HC.out.c4
      have a6 : w3.cell? ⟨(a.add (j * 8)).block, (a.add (j * 8)).off + 5, none⟩ = some (.string s') := st _ _ HC.out.c5
      have a7 : w3.cell? ⟨(a.add (j * 8)).block, (a.add (j * 8)).off + 6, none⟩ = some (.int .i64 x') := st _ _ HC.out.c6
      have a8 : w3.cell? ⟨(a.add (j * 8)).block, (a.add (j * 8)).off + 7, none⟩ = some (.slice A1 L1 c1) := st _ _ HC.out.c7
      clear st hb
      try go_wp2_with (fail)
      refine hK.out _ _ ?_ (fun hHeld => ?_)
      · ((try dsimp only); first | with_reducible exact ⟨g0, g1, g2, g3, g4, g5, g6, g7, g8⟩ | with_reducible exact ⟨a0, a1, a2, a3, a4, a5, a6, a7, a8⟩ | with_reducible exact ⟨b0, b1, b2, b3, b4, b5, b6, b7, b8⟩ | with_reducible exact ⟨d0, d1, d2, d3, d4, d5, d6, d7, d8⟩ | go_keep)
      clear hK K
      try simp only [Act.put, List.setIfInBounds_toArray, List.set_cons_zero, List.set_cons_succ, List.getElem_toArray, List.getElem_cons_zero, List.getElem_cons_succ]
      refine wpAnyH_ready (rs := [8]) (by kernel_rfl) (by simp) ?_
      refine AllReadyH.cons rfl (fun K hK => ?_) AllReadyH.nil
      go_simp
      go_at_call 87
      refine (LK.out _).mono ?_
      rintro e w4 ⟨rfl, hb⟩
      have HB4 := Lib.hid (bs HB3.out hb)
      have st : ∀ (a : Addr) (u : Value), wr.cell? a = some u → w4.cell? a = some u := fun a u hu => cell_stays (fun hlt => HB4.out.block _ hlt) hu
      have b0 : w4.cell? ⟨w.heap.size, 4, none⟩ = some (.slice (some a) L c) := (rowc (carry HB4.out HE.out)).1 4
      have b1 : w4.cell? (a.add (j * 8)) = some (.bool yb) := st _ _ HC.out.c0
      have b2 : w4.cell? ⟨(a.add (j * 8)).block, (a.add (j * 8)).off + 1, none⟩ = some (.int .i64 yn) := st _ _ HC.out.c1
      have b3 : w4.cell? ⟨(a.add (j * 8)).block, (a.add (j * 8)).off + 2, none⟩ = some (.string ys) := st _ _ HC.out.c2
      have b4 : w4.cell? ⟨(a.add (j * 8)).block, (a.add (j * 8)).off + 3, none⟩ = some (.int .i64 k') := st _ _ HC.out.c3
      have b5 : w4.cell? ⟨(a.add (j * 8)).block, (a.add (j * 8)).off + 4, none⟩ = some (.int .i64 n') := st _ _ HC.out.c4
      have b6 : w4.cell? ⟨(a.add (j * 8)).block, (a.add (j * 8)).off + 5, none⟩ = some (.string s') := st _ _ HC.out.c5
      have b7 : w4.cell? ⟨(a.add (j * 8)).block, (a.add (j * 8)).off + 6, none⟩ = some (.int .i64 x') := st _ _ HC.out.c6
      have b8 : w4.cell? ⟨(a.add (j * 8)).block, (a.add (j * 8)).off + 7, none⟩ = some (.slice A1 L1 c1) := st _ _ HC.out.c7
      clear st hb
      try go_wp2_with (fail)
      refine hK.out _ _ ?_ (fun hHeld => ?_)
      · ((try dsimp only); first | with_reducible exact ⟨g0, g1, g2, g3, g4, g5, g6, g7, g8⟩ | with_reducible exact ⟨a0, a1, a2, a3, a4, a5, a6, a7, a8⟩ | with_reducible exact ⟨b0, b1, b2, b3, b4, b5, b6, b7, b8⟩ | with_reducible exact ⟨d0, d1, d2, d3, d4, d5, d6, d7, d8⟩ | go_keep)
      clear hK K
      try simp only [Act.put, List.setIfInBounds_toArray, List.set_cons_zero, List.set_cons_succ, List.getElem_toArray, List.getElem_cons_zero, List.getElem_cons_succ]
      refine wpAnyH_take (i := 9) (v := ?_) rfl (by kernel_rfl) (by kernel_rfl) (by kernel_rfl) (fun _ _ _ h => h) (Or.inl ⟨by kernel_rfl, ?_⟩) (by assumption) ?_
      rotate_left
      · (intro w hSw; (try dsimp only at hSw); go_split_ands; go_simp; try (with_reducible rfl))
      try simp only [Act.put, List.setIfInBounds_toArray, List.set_cons_zero, List.set_cons_succ, List.getElem_toArray, List.getElem_cons_zero, List.getElem_cons_succ]
      refine wpAnyH_ready (rs := [16]) (by kernel_rfl) (by simp) ?_
      refine AllReadyH.cons rfl (fun K hK => ?_) AllReadyH.nil
      go_simp
      go_at_call 87
      refine (IH.out _ HB4.out).mono ?_
      rintro e w5 ⟨rfl, hb⟩
      have HB5 := Lib.hid (bs HB4.out hb)
      have st : ∀ (a : Addr) (u : Value), wr.cell? a = some u → w5.cell? a = some u := fun a u hu => cell_stays (fun hlt => HB5.out.block _ hlt) hu
      have d0 : w5.cell? ⟨w.heap.size, 4, none⟩ = some (.slice (some a) L c) := (rowc (carry HB5.out HE.out)).1 4
      have d1 : w5.cell? (a.add (j * 8)) = some (.bool yb) := st _ _ HC.out.c0
      have d2 : w5.cell? ⟨(a.add (j * 8)).block, (a.add (j * 8)).off + 1, none⟩ = some (.int .i64 yn) := st _ _ HC.out.c1
      have d3 : w5.cell? ⟨(a.add (j * 8)).block, (a.add (j * 8)).off + 2, none⟩ = some (.string ys) := st _ _ HC.out.c2
      have d4 : w5.cell? ⟨(a.add (j * 8)).block, (a.add (j * 8)).off + 3, none⟩ = some (.int .i64 k') := st _ _ HC.out.c3
      have d5 : w5.cell? ⟨(a.add (j * 8)).block, (a.add (j * 8)).off + 4, none⟩ = some (.int .i64 n') := st _ _ HC.out.c4
      have d6 : w5.cell? ⟨(a.add (j * 8)).block, (a.add (j * 8)).off + 5, none⟩ = some (.string s') := st _ _ HC.out.c5
      have d7 : w5.cell? ⟨(a.add (j * 8)).block, (a.add (j * 8)).off + 6, none⟩ = some (.int .i64 x') := st _ _ HC.out.c6
      have d8 : w5.cell? ⟨(a.add (j * 8)).block, (a.add (j * 8)).off + 7, none⟩ = some (.slice A1 L1 c1) := st _ _ HC.out.c7
      clear st hb
      try go_wp2_with (fail)
      refine hK.out _ _ ?_ (fun hHeld => ?_)
      · ((try dsimp only); first | with_reducible exact ⟨g0, g1, g2, g3, g4, g5, g6, g7, g8⟩ | with_reducible exact ⟨a0, a1, a2, a3, a4, a5, a6, a7, a8⟩ | with_reducible exact ⟨b0, b1, b2, b3, b4, b5, b6, b7, b8⟩ | with_reducible exact ⟨d0, d1, d2, d3, d4, d5, d6, d7, d8⟩ | go_keep)
      clear hK K
      try simp only [Act.put, List.setIfInBounds_toArray, List.set_cons_zero, List.set_cons_succ, List.getElem_toArray, List.getElem_cons_zero, List.getElem_cons_succ]
      refine wpAnyH_take (i := 17) (v := ?_) rfl (by kernel_rfl) (by kernel_rfl) (by kernel_rfl) (fun _ _ _ h => h) (Or.inl ⟨by kernel_rfl, ?_⟩) (by assumption) ?_
      rotate_left
      · (intro w hSw; (try dsimp only at hSw); go_split_ands; go_simp; try (with_reducible rfl))
      try simp only [Act.put, List.setIfInBounds_toArray, List.set_cons_zero, List.set_cons_succ, List.getElem_toArray, List.getElem_cons_zero, List.getElem_cons_succ]
      refine wpAnyH_ready (rs := [18]) (by kernel_rfl) (by simp) ?_
      refine AllReadyH.cons rfl (fun K hK => ?_) AllReadyH.nil
      go_simp
      refine hK.out _ _ ?_ (fun hHeld => ?_)
      · ((try dsimp only); first | with_reducible exact ⟨g0, g1, g2, g3, g4, g5, g6, g7, g8⟩ | with_reducible exact ⟨a0, a1, a2, a3, a4, a5, a6, a7, a8⟩ | with_reducible exact ⟨b0, b1, b2, b3, b4, b5, b6, b7, b8⟩ | with_reducible exact ⟨d0, d1, d2, d3, d4, d5, d6, d7, d8⟩ | go_keep)
      clear hK K
      try simp only [Act.put, List.setIfInBounds_toArray, List.set_cons_zero, List.set_cons_succ, List.getElem_toArray, List.getElem_cons_zero, List.getElem_cons_succ]
      refine wpAnyH_done (by kernel_rfl) ?_ _
      go_wp2_with (fail)
      clear d0 d1 d2 d3 d4 d5 d6 d7 d8
      go_roundg (L - j)
      case rel => exact ⟨j + 1, _, _, by go_num, rfl, Lib.hid HJ.out.symm, by omega, by omega, Lib.hid (by have := HD.out; simpa using this), Lib.hid (carry HB5.out HE.out), bs HB.out HB5.out⟩
      case measure => omega
      -- DLEH
    · obtain rfl : j = L := by omega
      have HF : Hid (bz T = z) := Lib.hid (by
        have := HQ.out
        rw [show vs.drop j = [] from List.drop_eq_nil_of_le (Nat.le_of_eq HL.out.symm), sers_nil, List.append_nil] at this
        rw [← this, HZ.out])
      go_wp2_with (fail)
      go_ret
      exact ⟨by rw [HF.out]; rfl, HB.out⟩


end Go.Proofs.YtdglmnmalfpipaaGreatDoor.tree

/-
  The project's reader of a text: texts and keys.
  Conditions: those that each theorem names.
-/
namespace Go.Proofs.YtdglmnmalfpipaaGreatDoor.tree
open Go.ChangeShapes Go.WideShapes Go.ChangeAt Go.RowKit
set_option linter.unusedVariables false

/-- What a text read off leaves. -/
def TrQ (B R : Nat) (l : List UInt8) (W : Int) (o : Option (List UInt8 × List UInt8)) (w : World) (e : Ending) (w' : World) : Prop :=
  ∃ l', Rs B R l' W w' ∧ Fr (OnR R) w w' ∧ l'.length ≤ l.length ∧ ((∃ d, o = some (d, l') ∧ d.length ≤ l.length ∧ e = .returned (.tuple #[.string (bz d), .bool true])) ∨ (o = none ∧ ∃ s : ByteArray, s.size ≤ l.length ∧ e = .returned (.tuple #[.string s, .bool false])))
theorem tx_bad {l : List UInt8} (h : nm 58 0 1000000000000 l = none) : tx l = none := by unfold tx; rw [h]; rfl
theorem tx_nm {l r : List UInt8} {m : Nat} (h : nm 58 0 1000000000000 l = some ((m : Int), r)) : tx l = txN m r := by unfold tx; rw [h]; rfl
theorem txN_far {m : Nat} {r : List UInt8} (h : ¬ m ≤ r.length) : txN m r = none := by unfold txN; rw [if_neg h]
theorem txN_near {m : Nat} {r : List UInt8} (h : m ≤ r.length) : txN m r = (pf [59] (r.drop m)).map fun q => (r.take m, q) := by unfold txN; rw [if_pos h]

set_option maxHeartbeats 1000000 in
set_option maxRecDepth 100000 in
theorem readText_i (B R : Nat) (l : List UInt8) (W : Int) (w : World) (h : Rs B R l W w) :
    Calls Tryz.prog 155 #[.pointer (some ⟨R, 0, none⟩)] w (TrQ B R l W (tx l) w) := by
  have RU := Lib.hid (readUnsigned_i 58 B R l W w h)
  have HLN := Lib.hid h.len
  clear h
  go_enter Tryz.func155, Tryz.ntmps155
  go_wp2_with (fail)
  refine RU.out.mono ?_
  rintro e w1 ⟨l1, hs, hf, hl1, (⟨n, hn, rfl⟩ | ⟨hn, rfl⟩)⟩
  · obtain ⟨m, rfl⟩ : ∃ m : Nat, n = (m : Int) := ⟨n.toNat, by have := (nm_out hn).2.1; omega⟩
    have HM := Lib.hid (tx_nm hn)
    have hmb := (nm_out hn).2.2
    have HS := Lib.hid hs
    have HF := Lib.hid hf
    obtain ⟨r1, f1⟩ := rowc hs.blk
    have hz := bz_size l1
    have hlb : l1.length ≤ 1099511627776 := Nat.le_trans hl1 HLN.out
    by_cases hm : m ≤ l1.length
    · have HN := Lib.hid (HM.out.trans (txN_near hm))
      have e1 : (bz l1).extract 0 m = bz (l1.take m) := bz_upto _ _
      have e2 : (bz l1).extract m (bz l1).size = bz (l1.drop m) := bz_from _ _
      have SK := Lib.hid (fun w' hs => skip_i [59] B R (l1.drop m) W w' hs)
      have HX := Lib.hid (hs.text (l' := l1.drop m) (by rw [List.length_drop]; omega))
      have HT := Lib.hid (show (l1.take m).length ≤ l.length by rw [List.length_take]; omega)
      have HD := Lib.hid (show (l1.drop m).length ≤ l.length by rw [List.length_drop]; omega)
      have hsz : (bz l1).size = l1.length := rfl
      obtain ⟨d, HD2⟩ : ∃ d, Hid (l1.drop m = d) := ⟨_, Lib.hid rfl⟩
      obtain ⟨t, HT2⟩ : ∃ d, Hid (l1.take m = d) := ⟨_, Lib.hid rfl⟩
      rw [HD2.out] at e2 SK HX HN HD
      rw [HT2.out] at e1 HN HT
      rw [hsz] at e2
      have c1 : (0 : Int) ≤ (m : Int) := by omega
      have c2 : (m : Int) ≤ ((bz l1).size : Int) := by rw [hsz]; omega
      have c3 : m ≤ (bz l1).size := by rw [hsz]; exact hm
      have c4 : ¬ ((l1.length : Int) < (m : Int)) := by omega
      have c5 : ¬ (((bz l1).size : Int) < (m : Int)) := by rw [hsz]; omega
      have c6 : ¬ (l1.length < m) := by omega
      have SK : Hid (∀ w', Rs B R d W w' → Calls Tryz.prog 153 #[.pointer (some ⟨R, 0, none⟩), .string ⟨#[59]⟩] w' (fun e w2 => e = .returned (.bool (pf [59] d).isSome) ∧ Rs B R ((pf [59] d).getD d) W w2 ∧ Fr (OnR R) w' w2)) := SK
      clear hs hf hn
      cases hp : pf [59] d with
      | none =>
        have SK : Hid (∀ w', Rs B R d W w' → Calls Tryz.prog 153 #[.pointer (some ⟨R, 0, none⟩), .string ⟨#[59]⟩] w' (fun e w2 => e = .returned (.bool false) ∧ Rs B R d W w2 ∧ Fr (OnR R) w' w2)) := Lib.hid fun w' hs => by have := SK.out w' hs; rw [hp] at this; exact this
        have HN : Hid (tx l = none) := Lib.hid (by rw [HN.out, hp]; rfl)
        clear hp
        go_wp2_with (fail)
        refine (SK.out _ HX.out).mono ?_
        rintro e w2 ⟨rfl, hs2, hf2⟩
        have HS2 := Lib.hid hs2
        have HF2 := Lib.hid (HF.out.trans (fr_on.trans hf2))
        clear hs2 hf2
        go_wp2_with (fail)
        go_ret2
        exact ⟨d, HS2.out, HF2.out, HD.out, .inr ⟨HN.out, _, (by rw [bz_size]; exact HT.out), rfl⟩⟩
      | some q =>
        have SK : Hid (∀ w', Rs B R d W w' → Calls Tryz.prog 153 #[.pointer (some ⟨R, 0, none⟩), .string ⟨#[59]⟩] w' (fun e w2 => e = .returned (.bool true) ∧ Rs B R q W w2 ∧ Fr (OnR R) w' w2)) := Lib.hid fun w' hs => by have := SK.out w' hs; rw [hp] at this; exact this
        have HN : Hid (tx l = some (t, q)) := Lib.hid (by rw [HN.out, hp]; rfl)
        have HQ := Lib.hid (show q.length ≤ l.length by have := pf_len hp; have := HD.out; omega)
        clear hp
        go_wp2_with (fail)
        refine (SK.out _ HX.out).mono ?_
        rintro e w2 ⟨rfl, hs2, hf2⟩
        have HS2 := Lib.hid hs2
        have HF2 := Lib.hid (HF.out.trans (fr_on.trans hf2))
        clear hs2 hf2
        go_wp2_with (fail)
        go_ret2
        exact ⟨q, HS2.out, HF2.out, HQ.out, .inl ⟨t, HN.out, HT.out, rfl⟩⟩
    · have HN := Lib.hid (HM.out.trans (txN_far hm))
      have c4 : (l1.length : Int) < (m : Int) := by omega
      have c5 : ((bz l1).size : Int) < (m : Int) := by rw [hz]; omega
      have c6 : (bz l1).size < m := by rw [hz]; omega
      clear hs hf hn
      go_wp2_with (fail)
      go_ret2
      exact ⟨l1, HS.out, HF.out, hl1, .inr ⟨HN.out, _, Nat.zero_le _, rfl⟩⟩
  · have HS := Lib.hid hs
    have HF := Lib.hid hf
    have HN := Lib.hid (tx_bad hn)
    clear hs hf hn
    go_wp2_with (fail)
    go_ret2
    exact ⟨l1, HS.out, HF.out, hl1, .inr ⟨HN.out, _, Nat.zero_le _, rfl⟩⟩

section
variable {B R N : Nat} {l : List UInt8} {W : Int} {S : Nat → Prop} {w w1 wF : World}
/-- A box above B, other than the reader's, is written. -/
theorem Rs.swap (h : Rs B R l W w) (ho : ∀ q, q ≠ N → wF.heap[q]? = w.heap[q]?) (hb : ∀ (Bx : Nat) (w0 : World), Bx ≤ N → Below Bx w0 w → Below Bx w0 wF) (hN : B ≤ N) (hne : R ≠ N) : Rs B R l W wF := by
  obtain ⟨w0, h1, h2, h3⟩ := h.env
  exact ⟨(ho R hne).trans h.blk, h.le, ⟨w0, h1, h2, hb _ _ (Nat.le_trans h2 hN) h3⟩, h.len, h.wt⟩
theorem Fr.swap (h : Fr S w w1) (ho : ∀ q, q ≠ N → wF.heap[q]? = w1.heap[q]?) (hb : ∀ (Bx : Nat) (w0 : World), Bx ≤ N → Below Bx w0 w1 → Below Bx w0 wF) (hN : w.heap.size ≤ N) : Fr S w wF := by
  have h0 := hb 0 w1 (Nat.zero_le _) (Below.refl 0 w1)
  exact ⟨h0.os.trans h.os, h0.tape.trans h.tape, h0.output.trans h.output, Nat.le_trans h.size h0.size, fun b hlt hs => (ho b (by omega)).trans (h.block b hlt hs)⟩
theorem fillK {t : TypeId} {a b c c0 c1 c2 : Value} (h : w.heap[N]? = some (.cells #[a, b, c] t (0, 0)))
    (hF : (((w.setCell ⟨N, 0, none⟩ c0).setCell ⟨N, 1, none⟩ c1).setCell ⟨N, 2, none⟩ c2) = wF) :
    (∀ j, wF.cell? ⟨N, j, none⟩ = (#[c0, c1, c2] : Array Value)[j]?) ∧ (∀ q, q ≠ N → wF.heap[q]? = w.heap[q]?) ∧ ∀ (B : Nat) (w0 : World), B ≤ N → Below B w0 w → Below B w0 wF := by
  subst hF
  refine ⟨fun j => ?_, fun q hq => ?_, fun B w0 hB hb => ?_⟩
  · have := set_heap (set_heap (set_heap h 0 c0) 1 c1) 2 c2
    rw [cell_of_row _ _ j _ _ _ this]
    simp
  · rw [set_other hq, set_other hq, set_other hq]
  · exact ((hb.setCell hB _).setCell hB _).setCell hB _
end
/-- What a key read off leaves. -/
def KrQ (B R : Nat) (l : List UInt8) (W : Int) (o : Option (Ky × List UInt8)) (w : World) (e : Ending) (w' : World) : Prop :=
  ∃ l' y, Rs B R l' W w' ∧ Fr (OnR R) w w' ∧ l'.length ≤ l.length ∧ (I64 y.num ∧ y.str.size ≤ l.length) ∧ ((o = some (y, l') ∧ e = .returned (.tuple #[kyV y, .bool true])) ∨ (o = none ∧ e = .returned (.tuple #[kyV y, .bool false])))
theorem rdK_num {l r : List UInt8} (h : pf [105, 58] l = some r) : rdK l = (nm 59 (-1000000000) 1000000000 r).map fun p => (⟨false, p.1, ⟨#[]⟩⟩, p.2) := by unfold rdK; rw [h]
theorem rdK_text {l r : List UInt8} (h0 : pf [105, 58] l = none) (h : pf [115, 58] l = some r) : rdK l = (tx r).map fun p => (⟨true, 0, bz p.1⟩, p.2) := by unfold rdK; rw [h0, h]
theorem rdK_none {l : List UInt8} (h0 : pf [105, 58] l = none) (h : pf [115, 58] l = none) : rdK l = none := by unfold rdK; rw [h0, h]
/-- skip, told apart by what the text begins with. -/
theorem skip_yes {p l r : List UInt8} (hp : pf p l = some r) {B R : Nat} {W : Int} {w : World} (h : Rs B R l W w) :
    Calls Tryz.prog 153 #[.pointer (some ⟨R, 0, none⟩), .string (bz p)] w (fun e w' => e = .returned (.bool true) ∧ Rs B R r W w' ∧ Fr (OnR R) w w') := by
  have := skip_i p B R l W w h
  rw [hp] at this
  exact this
theorem skip_no {p l : List UInt8} (hp : pf p l = none) {B R : Nat} {W : Int} {w : World} (h : Rs B R l W w) :
    Calls Tryz.prog 153 #[.pointer (some ⟨R, 0, none⟩), .string (bz p)] w (fun e w' => e = .returned (.bool false) ∧ Rs B R l W w' ∧ Fr (OnR R) w w') := by
  have := skip_i p B R l W w h
  rw [hp] at this
  exact this

set_option maxHeartbeats 1000000 in
set_option maxRecDepth 100000 in
theorem readKey_i (B R : Nat) (l : List UInt8) (W : Int) (w : World) (h : Rs B R l W w) :
    Calls Tryz.prog 203 #[.pointer (some ⟨R, 0, none⟩)] w (KrQ B R l W (rdK l) w) := by
  have HLN := Lib.hid h.len
  have hRlt := h.lt
  have hBR := h.le
  obtain ⟨N, HN0⟩ : ∃ N, Hid (N = w.heap.size) := ⟨_, Lib.hid rfl⟩
  obtain ⟨W0, HW0⟩ : ∃ W, Hid (W = w.alloc (.cells #[.bool false, .int .i64 0, .string ⟨#[]⟩] IK)) := ⟨_, Lib.hid rfl⟩
  have E0 : Hid (W0.heap[w.heap.size]? = some (.cells #[.bool false, .int .i64 0, .string ⟨#[]⟩] IK (0, 0))) := Lib.hid (by rw [HW0.out]; exact heap_alloc_new w _)
  have HF0 : Hid (Fr (OnR R) w W0) := Lib.hid (by rw [HW0.out]; exact Fr.of (b1 w _))
  have HS0 : Hid (Rs B R l W W0) := Lib.hid (by rw [HW0.out]; exact h.stays (b1 w _))
  have hne : R ≠ w.heap.size := by omega
  have hBN : B ≤ w.heap.size := by omega
  have keep : ∀ (wa wb : World), Fr (OnR R) wa wb → wa.heap[w.heap.size]? = some (.cells #[.bool false, .int .i64 0, .string ⟨#[]⟩] IK (0, 0)) → wb.heap[w.heap.size]? = some (.cells #[.bool false, .int .i64 0, .string ⟨#[]⟩] IK (0, 0)) := fun wa wb hf hE => (hf.block _ (Array.getElem?_eq_some_iff.1 hE).1 (fun e => hne e.symm)).trans hE
  have KEEP := Lib.hid keep
  clear h keep
  cases hp1 : pf [105, 58] l with
  | some r =>
    have S1 := Lib.hid (fun w' (hs : Rs B R l W w') => skip_yes hp1 hs)
    have S1 : Hid (∀ w', Rs B R l W w' → Calls Tryz.prog 153 #[.pointer (some ⟨R, 0, none⟩), .string ⟨#[105, 58]⟩] w' (fun e w2 => e = .returned (.bool true) ∧ Rs B R r W w2 ∧ Fr (OnR R) w' w2)) := S1
    have RS := Lib.hid (fun w' hs => readSigned_i B R r W w' hs)
    have HK := Lib.hid (rdK_num hp1)
    have HL := Lib.hid (show r.length ≤ l.length by have := pf_len hp1; omega)
    clear hp1
    go_enter Tryz.func203, Tryz.ntmps203
    go_wp2_with (fail)
    rw [← HW0.out]
    refine (S1.out _ HS0.out).mono ?_
    rintro e w1 ⟨rfl, hs1, hf1⟩
    have HS1 := Lib.hid hs1
    have HF1 := Lib.hid (HF0.out.trans hf1)
    have E1 := Lib.hid (KEEP.out _ _ hf1 E0.out)
    clear hs1 hf1
    go_wp2_with (fail)
    refine (RS.out _ HS1.out).mono ?_
    rintro e w2 ⟨l2, hs2, hf2, hl2, (⟨n, hn, rfl⟩ | ⟨hn, rfl⟩)⟩
    · have hnb := nm_out hn
      have HNB := Lib.hid (show I64 n by unfold I64; omega)
      have HK2 : Hid (rdK l = some (⟨false, n, ⟨#[]⟩⟩, l2)) := Lib.hid (by rw [HK.out, hn]; rfl)
      have HS2 := Lib.hid hs2
      have HF2 := Lib.hid (HF1.out.trans hf2)
      have E2 := Lib.hid (KEEP.out _ _ hf2 E1.out)
      obtain ⟨r2, f2⟩ := rowc E2.out
      clear hs2 hf2 hn hnb
      go_wp2_with (fail)
      generalize hwF : ((w2.setCell ⟨w.heap.size, 0, none⟩ (.bool false)).setCell ⟨w.heap.size, 1, none⟩ (.int .i64 n)).setCell ⟨w.heap.size, 2, none⟩ (.string ⟨#[]⟩) = wF
      obtain ⟨rF, oF, bF⟩ := fillK E2.out hwF
      refine bodyPost_ret (v := .tuple #[kyV ⟨false, n, ⟨#[]⟩⟩, .bool true]) ?_ rfl ?_
      · simp [results, Tryz.results203, go_sem, rF, kyV]
      · exact ⟨l2, ⟨false, n, ⟨#[]⟩⟩, HS2.out.swap oF bF hBN hne, HF2.out.swap oF bF (Nat.le_refl _), Nat.le_trans hl2 HL.out, ⟨HNB.out, Nat.zero_le _⟩, .inl ⟨HK2.out, rfl⟩⟩
    · have HK2 : Hid (rdK l = none) := Lib.hid (by rw [HK.out, hn]; rfl)
      have HS2 := Lib.hid hs2
      have HF2 := Lib.hid (HF1.out.trans hf2)
      have E2 := Lib.hid (KEEP.out _ _ hf2 E1.out)
      obtain ⟨r2, f2⟩ := rowc E2.out
      clear hs2 hf2 hn
      go_wp2_with (fail)
      generalize hwF : ((w2.setCell ⟨w.heap.size, 0, none⟩ (.bool false)).setCell ⟨w.heap.size, 1, none⟩ (.int .i64 0)).setCell ⟨w.heap.size, 2, none⟩ (.string ⟨#[]⟩) = wF
      obtain ⟨rF, oF, bF⟩ := fillK E2.out hwF
      refine bodyPost_ret (v := .tuple #[kyV ⟨false, 0, ⟨#[]⟩⟩, .bool false]) ?_ rfl ?_
      · simp [results, Tryz.results203, go_sem, rF, kyV]
      · exact ⟨l2, ⟨false, 0, ⟨#[]⟩⟩, HS2.out.swap oF bF hBN hne, HF2.out.swap oF bF (Nat.le_refl _), Nat.le_trans hl2 HL.out, ⟨by unfold I64; simp, Nat.zero_le _⟩, .inr ⟨HK2.out, rfl⟩⟩
  | none =>
    have S1 := Lib.hid (fun w' (hs : Rs B R l W w') => skip_no hp1 hs)
    have S1 : Hid (∀ w', Rs B R l W w' → Calls Tryz.prog 153 #[.pointer (some ⟨R, 0, none⟩), .string ⟨#[105, 58]⟩] w' (fun e w2 => e = .returned (.bool false) ∧ Rs B R l W w2 ∧ Fr (OnR R) w' w2)) := S1
    cases hp2 : pf [115, 58] l with
    | some r =>
      have S2 := Lib.hid (fun w' (hs : Rs B R l W w') => skip_yes hp2 hs)
      have S2 : Hid (∀ w', Rs B R l W w' → Calls Tryz.prog 153 #[.pointer (some ⟨R, 0, none⟩), .string ⟨#[115, 58]⟩] w' (fun e w2 => e = .returned (.bool true) ∧ Rs B R r W w2 ∧ Fr (OnR R) w' w2)) := S2
      have RT := Lib.hid (fun w' hs => readText_i B R r W w' hs)
      have HK := Lib.hid (rdK_text hp1 hp2)
      have HL := Lib.hid (show r.length ≤ l.length by have := pf_len hp2; omega)
      clear hp1 hp2
      go_enter Tryz.func203, Tryz.ntmps203
      go_wp2_with (fail)
      rw [← HW0.out]
      refine (S1.out _ HS0.out).mono ?_
      rintro e w1 ⟨rfl, hs1, hf1⟩
      have HS1 := Lib.hid hs1
      have HF1 := Lib.hid (HF0.out.trans hf1)
      have E1 := Lib.hid (KEEP.out _ _ hf1 E0.out)
      clear hs1 hf1
      go_wp2_with (fail)
      refine (S2.out _ HS1.out).mono ?_
      rintro e w2 ⟨rfl, hs2, hf2⟩
      have HS2 := Lib.hid hs2
      have HF2 := Lib.hid (HF1.out.trans hf2)
      have E2 := Lib.hid (KEEP.out _ _ hf2 E1.out)
      clear hs2 hf2
      go_wp2_with (fail)
      refine (RT.out _ HS2.out).mono ?_
      rintro e w3 ⟨l3, hs3, hf3, hl3, hres⟩
      have HS3 := Lib.hid hs3
      have HF3 := Lib.hid (HF2.out.trans hf3)
      have E3 := Lib.hid (KEEP.out _ _ hf3 E2.out)
      clear hs3 hf3
      obtain ⟨s, q, rfl, hsz, hk3⟩ : ∃ (s : ByteArray) (q : Bool), e = .returned (.tuple #[.string s, .bool q]) ∧ s.size ≤ l.length ∧ ((q = true ∧ rdK l = some (⟨true, 0, s⟩, l3)) ∨ (q = false ∧ rdK l = none)) := by
        rcases hres with ⟨d, hd, hdl, rfl⟩ | ⟨hd, s, hsl, rfl⟩
        · exact ⟨bz d, true, rfl, by rw [bz_size]; have := HL.out; omega, .inl ⟨rfl, by rw [HK.out, hd]; rfl⟩⟩
        · exact ⟨s, false, rfl, by have := HL.out; omega, .inr ⟨rfl, by rw [HK.out, hd]; rfl⟩⟩
      have HK3 := Lib.hid hk3
      have CL := Lib.hid (implClone' s (by have := HLN.out; omega))
      clear hres hk3
      go_wp2_with (fail)
      refine (CL.out _).mono ?_
      rintro e w4 ⟨rfl, hb4⟩
      have HS4 := Lib.hid (HS3.out.stays hb4)
      have HF4 := Lib.hid (HF3.out.trans (Fr.of hb4))
      have E4 := Lib.hid (carry hb4 E3.out)
      obtain ⟨r4, f4⟩ := rowc E4.out
      clear hb4
      go_wp2_with (fail)
      generalize hwF : ((w4.setCell ⟨w.heap.size, 0, none⟩ (.bool true)).setCell ⟨w.heap.size, 1, none⟩ (.int .i64 0)).setCell ⟨w.heap.size, 2, none⟩ (.string s) = wF
      obtain ⟨rF, oF, bF⟩ := fillK E4.out hwF
      refine bodyPost_ret (v := .tuple #[kyV ⟨true, 0, s⟩, .bool q]) ?_ rfl ?_
      · simp [results, Tryz.results203, go_sem, rF, kyV]
      · refine ⟨l3, ⟨true, 0, s⟩, HS4.out.swap oF bF hBN hne, HF4.out.swap oF bF (Nat.le_refl _), Nat.le_trans hl3 HL.out, ⟨by unfold I64; simp, hsz⟩, ?_⟩
        rcases HK3.out with ⟨rfl, h⟩ | ⟨rfl, h⟩
        · exact .inl ⟨h, rfl⟩
        · exact .inr ⟨h, rfl⟩
    | none =>
      have S2 := Lib.hid (fun w' (hs : Rs B R l W w') => skip_no hp2 hs)
      have S2 : Hid (∀ w', Rs B R l W w' → Calls Tryz.prog 153 #[.pointer (some ⟨R, 0, none⟩), .string ⟨#[115, 58]⟩] w' (fun e w2 => e = .returned (.bool false) ∧ Rs B R l W w2 ∧ Fr (OnR R) w' w2)) := S2
      have HK := Lib.hid (rdK_none hp1 hp2)
      clear hp1 hp2
      go_enter Tryz.func203, Tryz.ntmps203
      go_wp2_with (fail)
      rw [← HW0.out]
      refine (S1.out _ HS0.out).mono ?_
      rintro e w1 ⟨rfl, hs1, hf1⟩
      have HS1 := Lib.hid hs1
      have HF1 := Lib.hid (HF0.out.trans hf1)
      have E1 := Lib.hid (KEEP.out _ _ hf1 E0.out)
      clear hs1 hf1
      go_wp2_with (fail)
      refine (S2.out _ HS1.out).mono ?_
      rintro e w2 ⟨rfl, hs2, hf2⟩
      have HS2 := Lib.hid hs2
      have HF2 := Lib.hid (HF1.out.trans hf2)
      have E2 := Lib.hid (KEEP.out _ _ hf2 E1.out)
      obtain ⟨r2, f2⟩ := rowc E2.out
      clear hs2 hf2
      go_wp2_with (fail)
      generalize hwF : ((w2.setCell ⟨w.heap.size, 0, none⟩ (.bool false)).setCell ⟨w.heap.size, 1, none⟩ (.int .i64 0)).setCell ⟨w.heap.size, 2, none⟩ (.string ⟨#[]⟩) = wF
      obtain ⟨rF, oF, bF⟩ := fillK E2.out hwF
      refine bodyPost_ret (v := .tuple #[kyV ⟨false, 0, ⟨#[]⟩⟩, .bool false]) ?_ rfl ?_
      · simp [results, Tryz.results203, go_sem, rF, kyV]
      · exact ⟨l, ⟨false, 0, ⟨#[]⟩⟩, HS2.out.swap oF bF hBN hne, HF2.out.swap oF bF (Nat.le_refl _), Nat.le_refl _, ⟨by unfold I64; simp, Nat.zero_le _⟩, .inr ⟨HK.out, rfl⟩⟩

end Go.Proofs.YtdglmnmalfpipaaGreatDoor.tree

/-
  Values whose lists lie each in a block of its own, whichever of two blocks is the older one: every block knows where it hangs, and a rank grows from there.
  Conditions: those that each theorem names.
-/
namespace Go.Proofs.YtdglmnmalfpipaaGreatDoor.tree
open Go.ChangeShapes Go.WideShapes Go.ChangeAt Go.RowKit
set_option linter.unusedVariables false

/-- The value is the tree; its lists lie in blocks of their own, and par says of each block in which block and at which item it hangs. -/
inductive TRk (w : World) (rk : Nat → Nat) (par : Nat → Nat × Nat) : Nat × Nat → Tr → Value → Prop
  | mk (here : Nat × Nat) (k n : Int) (s : ByteArray) (x : Int) (ks : List Ky) (vs : List Tr) (A : Option Addr) (cap g : Nat) (arr : Array Value)
      (K N X : Nat → Int) (Z : Nat → ByteArray) (D : Nat → Option Addr) (H : Nat → Nat)
      (hk : I64 k ∧ I64 n ∧ I64 x ∧ s.size ≤ maxLen) (hl : ks.length = vs.length) (hm : vs.length ≤ maxLen) (hcap : vs.length ≤ cap ∧ cap ≤ maxLen)
      (hg : 0 < vs.length → A = some ⟨g, 0, none⟩ ∧ par g = here ∧ rk here.1 < rk g ∧ w.heap[g]? = some (.cells arr IE (0, 0)) ∧ vs.length * 8 ≤ arr.size)
      (hc : ∀ (i : Nat) (hi : i < vs.length), (I64 (ks[i]'(hl ▸ hi)).num ∧ (ks[i]'(hl ▸ hi)).str.size ≤ maxLen) ∧ ∃ L, At8r arr i (ks[i]'(hl ▸ hi)) (K i) (N i) (Z i) (X i) (D i) L (H i))
      (ht : ∀ (i : Nat) (hi : i < vs.length), ∀ L, At8r arr i (ks[i]'(hl ▸ hi)) (K i) (N i) (Z i) (X i) (D i) L (H i) → TRk w rk par (g, i) (vs[i]) (vV (K i) (N i) (Z i) (X i) (D i) L (H i))) :
      TRk w rk par here (.mk k n s x ks vs) (vV k n s x A vs.length cap)

/-- A row of items in block g, each of which is its tree. -/
def PBlkR (w : World) (rk : Nat → Nat) (par : Nat → Nat × Nat) (g : Nat) (ks : List Ky) (vs : List Tr) : Prop :=
  ∃ arr, w.heap[g]? = some (.cells arr IE (0, 0)) ∧ vs.length * 8 ≤ arr.size ∧ ∀ i, i < vs.length → ∃ y k n s x ks' vs' A c, ks[i]? = some y ∧ vs[i]? = some (.mk k n s x ks' vs') ∧ (I64 y.num ∧ y.str.size ≤ maxLen) ∧
    At8r arr i y k n s x A vs'.length c ∧ TRk w rk par (g, i) (.mk k n s x ks' vs') (vV k n s x A vs'.length c)

section
variable {w w' : World} {rk : Nat → Nat} {par : Nat → Nat × Nat} {here : Nat × Nat}

theorem TRk.out {k n x : Int} {s : ByteArray} {ks : List Ky} {vs : List Tr} {v : Value} (h : TRk w rk par here (.mk k n s x ks vs) v) :
    ∃ A c, v = vV k n s x A vs.length c ∧ (I64 k ∧ I64 n ∧ I64 x ∧ s.size ≤ maxLen) ∧ ks.length = vs.length ∧ (vs.length ≤ c ∧ c ≤ maxLen) ∧ (0 < vs.length → ∃ g, A = some ⟨g, 0, none⟩ ∧ par g = here ∧ rk here.1 < rk g ∧ PBlkR w rk par g ks vs) := by
  cases h with
  | mk _ _ _ _ _ _ _ A cap g arr K N X Z D H hk hl hm hcap hg hc ht =>
    refine ⟨A, cap, rfl, hk, hl, hcap, fun h0 => ?_⟩
    obtain ⟨hA, hp, hlt, hb, hs⟩ := hg h0
    refine ⟨g, hA, hp, hlt, arr, hb, hs, fun i hi => ?_⟩
    obtain ⟨hy, L, hL⟩ := hc i hi
    have h := ht i hi L hL
    generalize hv : vs[i] = t at h
    obtain ⟨k', n', s', x', ks', vs'⟩ := t
    cases h with
    | mk _ _ _ _ _ _ _ A' cap' g' arr' K' N' X' Z' D' H' hk' hl' hm' hcap' hg' hc' ht' =>
      exact ⟨_, _, _, _, _, ks', vs', _, _, List.getElem?_eq_getElem _, by rw [List.getElem?_eq_getElem hi, hv], hy, hL, .mk _ _ _ _ _ _ _ _ _ _ _ K' N' X' Z' D' H' hk' hl' hm' hcap' hg' hc' ht'⟩

theorem TRk.of {k n x : Int} {s : ByteArray} {ks : List Ky} {vs : List Tr} {A : Option Addr} {c : Nat} (hk : I64 k ∧ I64 n ∧ I64 x ∧ s.size ≤ maxLen) (hl : ks.length = vs.length) (hcap : vs.length ≤ c ∧ c ≤ maxLen)
    (h : 0 < vs.length → ∃ g, A = some ⟨g, 0, none⟩ ∧ par g = here ∧ rk here.1 < rk g ∧ PBlkR w rk par g ks vs) : TRk w rk par here (.mk k n s x ks vs) (vV k n s x A vs.length c) := by
  by_cases h0 : 0 < vs.length
  · obtain ⟨g, hA, hp, hlt, arr, hb, hs, hi⟩ := h h0
    have pick : ∃ (K N X : Nat → Int) (Z : Nat → ByteArray) (D : Nat → Option Addr) (H : Nat → Nat), ∀ (i : Nat) (hi : i < vs.length), (I64 (ks[i]'(hl ▸ hi)).num ∧ (ks[i]'(hl ▸ hi)).str.size ≤ maxLen) ∧ ∃ L, At8r arr i (ks[i]'(hl ▸ hi)) (K i) (N i) (Z i) (X i) (D i) L (H i) ∧ TRk w rk par (g, i) (vs[i]) (vV (K i) (N i) (Z i) (X i) (D i) L (H i)) := by
      have each : ∀ i, ∃ (K N X : Int) (Z : ByteArray) (D : Option Addr) (H : Nat), ∀ (hi : i < vs.length), (I64 (ks[i]'(hl ▸ hi)).num ∧ (ks[i]'(hl ▸ hi)).str.size ≤ maxLen) ∧ ∃ L, At8r arr i (ks[i]'(hl ▸ hi)) K N Z X D L H ∧ TRk w rk par (g, i) (vs[i]) (vV K N Z X D L H) := by
        intro i
        by_cases hlt : i < vs.length
        · obtain ⟨y, k', n', s', x', ks', vs', A', c', hy, ht, hyb, hc, htp⟩ := hi i hlt
          have ey : ks[i]'(hl ▸ hlt) = y := by rw [List.getElem?_eq_getElem (hl ▸ hlt)] at hy; exact Option.some.inj hy
          have et : vs[i] = .mk k' n' s' x' ks' vs' := by rw [List.getElem?_eq_getElem hlt] at ht; exact Option.some.inj ht
          exact ⟨k', n', x', s', A', c', fun _ => by rw [ey, et]; exact ⟨hyb, _, hc, htp⟩⟩
        · exact ⟨0, 0, 0, ⟨#[]⟩, none, 0, fun h => absurd h hlt⟩
      refine ⟨fun i => (each i).choose, fun i => (each i).choose_spec.choose, fun i => (each i).choose_spec.choose_spec.choose, fun i => (each i).choose_spec.choose_spec.choose_spec.choose, fun i => (each i).choose_spec.choose_spec.choose_spec.choose_spec.choose, fun i => (each i).choose_spec.choose_spec.choose_spec.choose_spec.choose_spec.choose, fun i hi => ?_⟩
      exact (each i).choose_spec.choose_spec.choose_spec.choose_spec.choose_spec.choose_spec hi
    obtain ⟨K, N, X, Z, D, H, hp2⟩ := pick
    refine .mk here k n s x ks vs A c g arr K N X Z D H hk hl (by omega) hcap (fun _ => ⟨hA, hp, hlt, hb, hs⟩) (fun i hi => ⟨(hp2 i hi).1, ?_⟩) (fun i hi L hL => ?_)
    · obtain ⟨L, h1, _⟩ := (hp2 i hi).2
      exact ⟨L, h1⟩
    · obtain ⟨L', h1, h2⟩ := (hp2 i hi).2
      obtain ⟨-, -, -, -, -, -, rfl, -⟩ := at8r_inj hL h1
      exact h2
  · exact .mk here k n s x ks vs A c 0 #[] (fun _ => 0) (fun _ => 0) (fun _ => 0) (fun _ => ⟨#[]⟩) (fun _ => none) (fun _ => 0) hk hl (by omega) hcap (fun h => absurd h h0) (fun i hi => absurd hi (by omega)) (fun i hi => absurd hi (by omega))

/-- The blocks that hang, over others or not, at item h.2 of block h.1. -/
inductive HangR (rk : Nat → Nat) (par : Nat → Nat × Nat) (h : Nat × Nat) : Nat → Prop
  | root (b : Nat) (e : par b = h) (hlt : rk h.1 < rk b) : HangR rk par h b
  | step (b g i : Nat) (e : par b = (g, i)) (hlt : rk g < rk b) (hh : HangR rk par h g) : HangR rk par h b
theorem HangR.gt {b : Nat} (h : HangR rk par here b) : rk here.1 < rk b := by
  induction h with
  | root b e hlt => exact hlt
  | step b g i e hlt hh ih => omega
theorem HangR.sub {g i b : Nat} (h : HangR rk par (g, i) b) (hp : par g = here) (hlt : rk here.1 < rk g) : HangR rk par here b := by
  induction h with
  | root b e hlt' => exact .step b g i e hlt' (.root g hp hlt)
  | step b g' i' e hlt' hh ih => exact .step b g' i' e hlt' ih
theorem HangR.disj {g i j b : Nat} (h : HangR rk par (g, i) b) (h' : HangR rk par (g, j) b) : i = j := by
  induction h with
  | root b e hlt =>
    cases h' with
    | root _ e' _ => rw [e] at e'; injection e'
    | step _ g' i' e' hlt' hh => rw [e] at e'; injection e' with e1 e2; subst e1; have := hh.gt; simp at this
  | step b g' i' e hlt hh ih =>
    cases h' with
    | root _ e' _ => rw [e] at e'; injection e' with e1 e2; subst e1; have := hh.gt; simp at this
    | step _ g2 i2 e' hlt' hh' => rw [e] at e'; injection e' with e1 e2; subst e1; exact ih hh'

/-- What hangs there stays. -/
theorem TRk.stays {t : Tr} {v : Value} (h : TRk w rk par here t v) (hs : ∀ b, HangR rk par here b → w'.heap[b]? = w.heap[b]?) : TRk w' rk par here t v := by
  induction h with
  | mk here k n s x ks vs A cap g arr K N X Z D H hk hl hm hcap hg hc ht ih =>
    by_cases h0 : 0 < vs.length
    · obtain ⟨hA, hp, hlt, hb, hs2⟩ := hg h0
      refine .mk here k n s x ks vs A cap g arr K N X Z D H hk hl hm hcap (fun _ => ⟨hA, hp, hlt, (hs g (.root g hp hlt)).trans hb, hs2⟩) hc (fun i hi L hL => ih i hi L hL fun b hb => hs b (hb.sub hp hlt))
    · exact .mk here k n s x ks vs A cap g arr K N X Z D H hk hl hm hcap (fun h => absurd h h0) hc (fun i hi => absurd hi (by omega))
/-- par matters for the blocks that are there alone. -/
theorem TRk.par_ {par' : Nat → Nat × Nat} {t : Tr} {v : Value} (h : TRk w rk par here t v) (hs : ∀ b, b < w.heap.size → par' b = par b) : TRk w rk par' here t v := by
  induction h with
  | mk here k n s x ks vs A cap g arr K N X Z D H hk hl hm hcap hg hc ht ih =>
    by_cases h0 : 0 < vs.length
    · obtain ⟨hA, hp, hlt, hb, hs2⟩ := hg h0
      refine .mk here k n s x ks vs A cap g arr K N X Z D H hk hl hm hcap (fun _ => ⟨hA, (hs g (Array.getElem?_eq_some_iff.1 hb).1).trans hp, hlt, hb, hs2⟩) hc ih
    · exact .mk here k n s x ks vs A cap g arr K N X Z D H hk hl hm hcap (fun h => absurd h h0) hc (fun i hi => absurd hi (by omega))
/-- Other words at the head. -/
theorem TRk.head {k n x k' n' x' : Int} {s s' : ByteArray} {ks : List Ky} {vs : List Tr} {A : Option Addr} {L c : Nat} (h : TRk w rk par here (.mk k n s x ks vs) (vV k n s x A L c)) (hk : I64 k' ∧ I64 n' ∧ I64 x' ∧ s'.size ≤ maxLen) :
    TRk w rk par here (.mk k' n' s' x' ks vs) (vV k' n' s' x' A L c) := by
  obtain ⟨A', c', e, -, h2, h3, h4⟩ := h.out
  simp [vV] at e
  obtain ⟨rfl, rfl, rfl⟩ := e
  exact TRk.of hk h2 h3 h4

theorem TRk.tin {t : Tr} {v : Value} (h : TRk w rk par here t v) : TIn w (Nw 0 w) t v := by
  induction h with
  | mk here k n s x ks vs A cap g arr K N X Z D H hk hl hm hcap hg hc ht ih =>
    by_cases h0 : 0 < vs.length
    · obtain ⟨hA, hp, hlt, hb, hs2⟩ := hg h0
      have each : ∀ i (hi : i < vs.length), ∃ L, At8r arr i (ks[i]'(hl ▸ hi)) (K i) (N i) (Z i) (X i) (D i) L (H i) := fun i hi => (hc i hi).2
      refine .mk k n s x ks vs A cap (fun i => if hi : i < vs.length then #[.int .i64 (K i), .int .i64 (N i), .string (Z i), .int .i64 (X i), .slice (D i) (each i hi).choose (H i)] else #[]) hk hl hm hcap (fun i hi => ?_) (fun i hi => ?_)
      · have hL := (each i hi).choose_spec
        have at_ : ∀ q, q < 8 → w.cell? ((⟨g, 0, none⟩ : Addr).add (8 * i + q)) = (eV (ks[i]'(hl ▸ hi)) (K i) (N i) (Z i) (X i) (D i) (each i hi).choose (H i)).cells[q]? := fun q hq => by
          rw [Addr.add_lit, Nat.zero_add, cell_of_row w g _ arr IE _ hb, ← hL q hq, Nat.mul_comm]
        refine ⟨⟨g, 0, none⟩, hA, ⟨Nat.zero_le _, arr, IE, hb⟩, ⟨at_ 0 (by omega), at_ 1 (by omega), at_ 2 (by omega), (hc i hi).1⟩, by simp only [dif_pos hi]; rfl, fun j hj => ?_⟩
        rw [at_ (3 + j) (by omega)]
        simp only [dif_pos hi]
        match j, hj with
        | 0, _ => rfl
        | 1, _ => rfl
        | 2, _ => rfl
        | 3, _ => rfl
        | 4, _ => rfl
      · simp only [dif_pos hi]
        exact ih i hi _ (each i hi).choose_spec
    · exact .mk k n s x ks vs A cap (fun _ => #[]) hk hl hm hcap (fun i hi => absurd hi (by omega)) (fun i hi => absurd hi (by omega))
/-- What hangs there, and is there, stays. -/
theorem TRk.keep {t : Tr} {v : Value} (h : TRk w rk par here t v) (hs : ∀ b, HangR rk par here b → b < w.heap.size → w'.heap[b]? = w.heap[b]?) : TRk w' rk par here t v := by
  induction h with
  | mk here k n s x ks vs A cap g arr K N X Z D H hk hl hm hcap hg hc ht ih =>
    by_cases h0 : 0 < vs.length
    · obtain ⟨hA, hp, hlt, hb, hs2⟩ := hg h0
      refine .mk here k n s x ks vs A cap g arr K N X Z D H hk hl hm hcap (fun _ => ⟨hA, hp, hlt, (hs g (.root g hp hlt) (Array.getElem?_eq_some_iff.1 hb).1).trans hb, hs2⟩) hc (fun i hi L hL => ih i hi L hL fun b hb => hs b (hb.sub hp hlt))
    · exact .mk here k n s x ks vs A cap g arr K N X Z D H hk hl hm hcap (fun h => absurd h h0) hc (fun i hi => absurd hi (by omega))
end

end Go.Proofs.YtdglmnmalfpipaaGreatDoor.tree

/-
  Items that a call appends one by one: a row of its own.
  Conditions: those that each theorem names.
-/
namespace Go.Proofs.YtdglmnmalfpipaaGreatDoor.tree
open Go.ChangeShapes Go.WideShapes Go.ChangeAt Go.RowKit
set_option linter.unusedVariables false

/-- lo or above, and not the row's own block. -/
def SX (lo : Nat) (v : Value) (b : Nat) : Prop := lo ≤ b ∧ v.ownBlock ≠ some b
def xAt8 (xs : List Value) (i : Nat) (y : Ky) (k n : Int) (s : ByteArray) (x : Int) (A : Option Addr) (L c : Nat) : Prop := ∀ q, q < 8 → xs[i * 8 + q]? = (eV y k n s x A L c).cells[q]?
def ORowX (w : World) (lo : Nat) (v : Value) (xs : List Value) (ks : List Ky) (vs : List Tr) : Prop :=
  w.ownsRow lo IE 8 v vs.length xs ∧ ks.length = vs.length ∧ ∀ i, i < vs.length → ∃ y k n s x ks' vs' A c, ks[i]? = some y ∧ vs[i]? = some (.mk k n s x ks' vs') ∧ (I64 y.num ∧ y.str.size ≤ maxLen) ∧
    xAt8 xs i y k n s x A vs'.length c ∧ TIn w (SX lo v) (.mk k n s x ks' vs') (vV k n s x A vs'.length c)
def ORow (w : World) (lo : Nat) (v : Value) (ks : List Ky) (vs : List Tr) : Prop := ∃ xs, ORowX w lo v xs ks vs

section
variable {w w' : World} {lo : Nat} {v : Value} {ks : List Ky} {vs : List Tr}
theorem ORow.nil (w : World) (lo : Nat) : ORow w lo (.slice none 0 0) [] [] := ⟨[], World.ownsRow_nil w lo _ 8, rfl, fun i hi => absurd hi (by simp)⟩
theorem ownBlock_keep {v : Value} : v.ownBlock = none ∨ v.ownBlock ≠ (none : Option Nat) := by
  cases e : v.ownBlock with
  | none => exact .inl rfl
  | some k => exact .inr (by simp)
theorem ORowX.below {xs : List Value} (h : ORowX w lo v xs ks vs) (hb : Below w.heap.size w w') : ORowX w' lo v xs ks vs := by
  obtain ⟨h1, h2, h3⟩ := h
  refine ⟨World.ownsRow.kept h1 (mem.none_of_below hb) ownBlock_keep, h2, fun i hi => ?_⟩
  obtain ⟨y, k, n, s, x, ks', vs', A, c, a1, a2, a3, a4, a5⟩ := h3 i hi
  exact ⟨y, k, n, s, x, ks', vs', A, c, a1, a2, a3, a4, a5.below' hb⟩
theorem ORow.below (h : ORow w lo v ks vs) (hb : Below w.heap.size w w') : ORow w' lo v ks vs := by
  obtain ⟨xs, h⟩ := h
  exact ⟨xs, h.below hb⟩
theorem ORowX.above {xs : List Value} (h : ORowX w lo v xs ks vs) (hs : ∀ b, lo ≤ b → b < w.heap.size → w'.heap[b]? = w.heap[b]?) : ORowX w' lo v xs ks vs := by
  obtain ⟨h1, h2, h3⟩ := h
  refine ⟨⟨h1.1, ?_⟩, h2, fun i hi => ?_⟩
  · rcases h1.2 with h | ⟨g, cap, cur, e, hlo, hg, hr⟩
    · exact .inl h
    · exact .inr ⟨g, cap, cur, e, hlo, (hs g hlo (Array.getElem?_eq_some_iff.1 hg).1).trans hg, hr⟩
  · obtain ⟨y, k, n, s, x, ks', vs', A, c, a1, a2, a3, a4, a5⟩ := h3 i hi
    exact ⟨y, k, n, s, x, ks', vs', A, c, a1, a2, a3, a4, a5.stays (fun _ h => h) fun b hb hlt => hs b hb.1 hlt⟩
theorem ORow.above (h : ORow w lo v ks vs) (hs : ∀ b, lo ≤ b → b < w.heap.size → w'.heap[b]? = w.heap[b]?) : ORow w' lo v ks vs := by
  obtain ⟨xs, h⟩ := h
  exact ⟨xs, h.above hs⟩
theorem ORow.block (h : ORow w lo v ks vs) : ∀ k, v.ownBlock = some k → lo ≤ k ∧ k < w.heap.size := by
  obtain ⟨xs, h1, -⟩ := h
  exact h1.lt

/-- One more. -/
theorem ORowX.more {xs : List Value} (h : ORowX w lo v xs ks vs)
    {y : Ky} {k n x : Int} {s : ByteArray} {ks' : List Ky} {vs' : List Tr} {A : Option Addr} {c : Nat} (hy : I64 y.num ∧ y.str.size ≤ maxLen) (ht : TIn w (SX lo v) (.mk k n s x ks' vs') (vV k n s x A vs'.length c))
    {v' : Value} (ho : w'.ownsRow lo IE 8 v' (vs.length + 1) (xs ++ [.bool y.text, .int .i64 y.num, .string y.str, .int .i64 k, .int .i64 n, .string s, .int .i64 x, .slice A vs'.length c])) (hg : w.grownBy w' v.ownBlock) (hat : v'.ownBlock = v.ownBlock ∨ v'.ownBlock = some w.heap.size) :
    ORow w' lo v' (ks ++ [y]) (vs ++ [.mk k n s x ks' vs']) := by
  obtain ⟨h1, h2, h3⟩ := h
  have hxl : xs.length = vs.length * 8 := h1.1
  have st : ∀ {t : Tr} {u : Value}, TIn w (SX lo v) t u → TIn w' (SX lo v') t u := fun {t u} h => by
    have h' : TIn w (fun b => SX lo v b ∧ b < w.heap.size) t u := by
      induction h with
      | mk k n s x ks vs A cap C hk hl hm hcap hc ht ih =>
        refine .mk k n s x ks vs A cap C hk hl hm hcap (fun i hi => ?_) ih
        obtain ⟨a, ha, hS, hky, hs, hj⟩ := hc i hi
        refine ⟨a, ha, ⟨hS, ?_⟩, hky, hs, hj⟩
        have := World.block_lt_of_cell? _ _ hky.1
        rwa [mem.add_block] at this
    exact h'.stays (fun b ⟨⟨hb1, hb2⟩, hb3⟩ => ⟨hb1, fun e => by
      rcases hat with h | h
      · exact hb2 (h ▸ e)
      · rw [h] at e; injection e with e; omega⟩) (fun b ⟨⟨hb1, hb2⟩, hb3⟩ hlt => hg.block b hlt (fun e => hb2 e.symm))
  refine ⟨_, by rw [List.length_append]; exact ho, by rw [List.length_append, List.length_append, h2]; rfl, fun i hi => ?_⟩
  rw [List.length_append] at hi
  simp only [List.length_cons, List.length_nil] at hi
  by_cases e : i = vs.length
  · subst e
    refine ⟨y, k, n, s, x, ks', vs', A, c, by rw [List.getElem?_append_right (by omega), h2]; simp, by rw [List.getElem?_append_right (by omega)]; simp, hy, fun q hq => ?_, st ht⟩
    rw [List.getElem?_append_right (by omega), hxl, Nat.add_sub_cancel_left]
    match q, hq with
    | 0, _ => rfl
    | 1, _ => rfl
    | 2, _ => rfl
    | 3, _ => rfl
    | 4, _ => rfl
    | 5, _ => rfl
    | 6, _ => rfl
    | 7, _ => rfl
  · obtain ⟨y1, k1, n1, s1, x1, ks1, vs1, A1, c1, a1, a2, a3, a4, a5⟩ := h3 i (by omega)
    refine ⟨y1, k1, n1, s1, x1, ks1, vs1, A1, c1, by rw [List.getElem?_append_left (by omega)]; exact a1, by rw [List.getElem?_append_left (by omega)]; exact a2, a3, fun q hq => ?_, st a5⟩
    rw [List.getElem?_append_left (by omega)]
    exact a4 q hq

theorem ORow.isin (h : ORow w lo v ks vs) (hm : vs.length ≤ maxLen) : ∃ A c, v = .slice A vs.length c ∧ (vs.length ≤ c ∧ c ≤ maxLen) ∧ IsIn w (fun b => lo ≤ b) ks vs A := by
  obtain ⟨xs, h1, h2, h3⟩ := h
  rcases h1.2 with ⟨rfl, h0⟩ | ⟨g, cap, cur, rfl, hlo, hg, hnc, hcm, hsz, htk⟩
  · obtain rfl : vs = [] := List.length_eq_zero_iff.1 h0
    obtain rfl : ks = [] := List.length_eq_zero_iff.1 h2
    exact ⟨none, 0, rfl, ⟨by simp, by simp⟩, IsIn.nil _ _ _⟩
  · refine ⟨some ⟨g, 0, none⟩, cap, rfl, ⟨hnc, hcm⟩, h2, hm, ?_⟩
    have each : ∀ i, ∃ C : Array Value, ∀ (hi : i < vs.length), KyAt w ⟨g, 0, none⟩ i (ks[i]'(h2 ▸ hi)) ∧ C.size = 5 ∧ (∀ j, j < 5 → w.cell? ((⟨g, 0, none⟩ : Addr).add (8 * i + (3 + j))) = C[j]?) ∧ TIn w (fun b => lo ≤ b) (vs[i]) (.agg C) := by
      intro i
      by_cases hi : i < vs.length
      · obtain ⟨y, k, n, s, x, ks', vs', A, c, hy, ht, hyb, hat, hT⟩ := h3 i hi
        have ey : ks[i]'(h2 ▸ hi) = y := by rw [List.getElem?_eq_getElem (h2 ▸ hi)] at hy; exact Option.some.inj hy
        have et : vs[i] = .mk k n s x ks' vs' := by rw [List.getElem?_eq_getElem hi] at ht; exact Option.some.inj ht
        have at_ : ∀ q, q < 8 → w.cell? ((⟨g, 0, none⟩ : Addr).add (8 * i + q)) = (eV y k n s x A vs'.length c).cells[q]? := fun q hq => by
          rw [Addr.add_lit, Nat.zero_add, cell_of_row w g _ cur IE _ hg, ← hat q hq, ← htk, List.getElem?_take_of_lt (by omega), Nat.mul_comm]
          simp
        refine ⟨#[.int .i64 k, .int .i64 n, .string s, .int .i64 x, .slice A vs'.length c], fun _ => ?_⟩
        rw [ey, et]
        refine ⟨⟨at_ 0 (by omega), at_ 1 (by omega), at_ 2 (by omega), hyb⟩, rfl, fun j hj => ?_, hT.stays (fun b hb => hb.1) (fun b _ _ => rfl)⟩
        rw [at_ (3 + j) (by omega)]
        match j, hj with
        | 0, _ => rfl
        | 1, _ => rfl
        | 2, _ => rfl
        | 3, _ => rfl
        | 4, _ => rfl
      · exact ⟨#[], fun h => absurd h hi⟩
    exact ⟨fun i => (each i).choose, fun i hi => ⟨_, rfl, hlo, ((each i).choose_spec hi).1, ((each i).choose_spec hi).2.1, ((each i).choose_spec hi).2.2.1⟩, fun i hi => ((each i).choose_spec hi).2.2.2⟩
end

theorem addr_far {N j : Nat} (h : N < j) (o : Nat) : ∀ p : Addr, p.block < N + 1 → (⟨j, o, none⟩ : Addr) ≠ p := fun p hp e => by
  rw [← e] at hp
  simp only at hp
  omega
theorem ie_info : ∃ i, Tryz.prog.info? IE = some i ∧ (i.zero = some (.agg #[.bool false, .int .i64 0, .string ⟨#[]⟩, .int .i64 0, .int .i64 0, .string ⟨#[]⟩, .int .i64 0, .slice none 0 0]) ∧ i.size = 8 ∧ i.bytes = 96) := by
  have := ieRow
  cases hq : Tryz.prog.info? IE with
  | none => rw [hq] at this; cases this
  | some i => rw [hq] at this; simp at this; exact ⟨i, rfl, this⟩
theorem eight_one (b : Bool) (n : Int) (s : ByteArray) (k m : Int) (z : ByteArray) (x : Int) (A : Option Addr) (L c : Nat) : ∀ u ∈ [Value.bool b, .int .i64 n, .string s, .int .i64 k, .int .i64 m, .string z, .int .i64 x, .slice A L c], u.oneCell' = true := by simp [Value.oneCell']
theorem eight_new (w : World) (c0 c1 c2 c3 c4 c5 c6 c7 : Value) (t : TypeId) : ∀ j u, [c0, c1, c2, c3, c4, c5, c6, c7][j]? = some u → (w.alloc (.cells #[c0, c1, c2, c3, c4, c5, c6, c7] t)).cell? ((⟨w.heap.size, 0, none⟩ : Addr).add j) = some u := by
  intro j u hj
  rw [Addr.add_lit, Nat.zero_add, cell_of_row _ _ j _ t _ (heap_alloc_new w _)]
  simpa using hj

end Go.Proofs.YtdglmnmalfpipaaGreatDoor.tree

/-
  Items in a row of the call's own, all of whose blocks satisfy P.
  Conditions: those that each theorem names.
-/
namespace Go.Proofs.YtdglmnmalfpipaaGreatDoor.tree
open Go.ChangeShapes Go.WideShapes Go.ChangeAt Go.RowKit
set_option linter.unusedVariables false

def OwR (w : World) (P : Nat → Prop) (v : Value) (xs : List Value) (ks : List Ky) (vs : List Tr) : Prop :=
  w.ownsRow 0 IE 8 v vs.length xs ∧ (∀ b, v.ownBlock = some b → P b) ∧ ks.length = vs.length ∧ ∀ i, i < vs.length → ∃ y k n s x ks' vs' A c, ks[i]? = some y ∧ vs[i]? = some (.mk k n s x ks' vs') ∧ (I64 y.num ∧ y.str.size ≤ maxLen) ∧
    xAt8 xs i y k n s x A vs'.length c ∧ TIn w (fun b => P b ∧ v.ownBlock ≠ some b) (.mk k n s x ks' vs') (vV k n s x A vs'.length c)

section
variable {w w' : World} {P P' : Nat → Prop} {v : Value} {xs : List Value} {ks : List Ky} {vs : List Tr}
theorem OwR.of {lo : Nat} (h : ORowX w lo v xs ks vs) : OwR w (fun b => lo ≤ b ∧ b < w.heap.size) v xs ks vs := by
  have hb := ORow.block (lo := lo) (ks := ks) (vs := vs) ⟨xs, h⟩
  obtain ⟨h1, h2, h3⟩ := h
  refine ⟨⟨h1.1, h1.2.imp id fun ⟨g, cap, cur, e, hlo, r⟩ => ⟨g, cap, cur, e, Nat.zero_le _, r⟩⟩, hb, h2, fun i hi => ?_⟩
  obtain ⟨y, k, n, s, x, ks', vs', A, c, a1, a2, a3, a4, a5⟩ := h3 i hi
  refine ⟨y, k, n, s, x, ks', vs', A, c, a1, a2, a3, a4, ?_⟩
  have h' : TIn w (fun b => SX lo v b ∧ b < w.heap.size) (.mk k n s x ks' vs') (vV k n s x A vs'.length c) := by
    generalize (Tr.mk k n s x ks' vs') = t at a5
    generalize (vV k n s x A vs'.length c) = u at a5
    clear a1 a2 a4
    induction a5 with
    | mk k n s x ks vs A cap C hk hl hm hcap hc ht ih =>
      refine .mk k n s x ks vs A cap C hk hl hm hcap (fun i hi => ?_) ih
      obtain ⟨a, ha, hS, hky, hs, hj⟩ := hc i hi
      refine ⟨a, ha, ⟨hS, ?_⟩, hky, hs, hj⟩
      have := World.block_lt_of_cell? _ _ hky.1
      rwa [mem.add_block] at this
  exact h'.stays (fun b hb => ⟨⟨hb.1.1, hb.2⟩, hb.1.2⟩) (fun _ _ _ => rfl)
theorem OwR.mono (h : OwR w P v xs ks vs) (hP : ∀ b, P b → P' b) : OwR w P' v xs ks vs := by
  obtain ⟨h1, h0, h2, h3⟩ := h
  refine ⟨h1, fun b e => hP b (h0 b e), h2, fun i hi => ?_⟩
  obtain ⟨y, k, n, s, x, ks', vs', A, c, a1, a2, a3, a4, a5⟩ := h3 i hi
  exact ⟨y, k, n, s, x, ks', vs', A, c, a1, a2, a3, a4, a5.stays (fun b hb => ⟨hP b hb.1, hb.2⟩) (fun _ _ _ => rfl)⟩
theorem OwR.keep (h : OwR w P v xs ks vs) (hs : ∀ b, P b → b < w.heap.size → w'.heap[b]? = w.heap[b]?) : OwR w' P v xs ks vs := by
  obtain ⟨h1, h0, h2, h3⟩ := h
  refine ⟨⟨h1.1, ?_⟩, h0, h2, fun i hi => ?_⟩
  · rcases h1.2 with h | ⟨g, cap, cur, e, hlo, hg, hr⟩
    · exact .inl h
    · exact .inr ⟨g, cap, cur, e, hlo, (hs g (h0 g (by rw [e]; rfl)) (Array.getElem?_eq_some_iff.1 hg).1).trans hg, hr⟩
  · obtain ⟨y, k, n, s, x, ks', vs', A, c, a1, a2, a3, a4, a5⟩ := h3 i hi
    exact ⟨y, k, n, s, x, ks', vs', A, c, a1, a2, a3, a4, a5.stays (fun _ h => h) fun b hb hlt => hs b hb.1 hlt⟩
theorem OwR.below (h : OwR w P v xs ks vs) (hb : Below w.heap.size w w') : OwR w' P v xs ks vs := h.keep fun b _ hl => hb.block b hl
theorem OwR.row (h : OwR w P v xs ks vs) : ORow w 0 v ks vs := by
  obtain ⟨h1, h0, h2, h3⟩ := h
  refine ⟨xs, h1, h2, fun i hi => ?_⟩
  obtain ⟨y, k, n, s, x, ks', vs', A, c, a1, a2, a3, a4, a5⟩ := h3 i hi
  exact ⟨y, k, n, s, x, ks', vs', A, c, a1, a2, a3, a4, a5.stays (fun b hb => ⟨Nat.zero_le _, hb.2⟩) (fun _ _ _ => rfl)⟩
theorem OwR.isin (h : OwR w P v xs ks vs) (hm : vs.length ≤ maxLen) : ∃ A c, v = .slice A vs.length c ∧ (vs.length ≤ c ∧ c ≤ maxLen) ∧ IsIn w (fun b => 0 ≤ b) ks vs A := h.row.isin hm

/-- One more. -/
theorem OwR.more {Q : Nat → Prop} (h : OwR w P v xs ks vs)
    {y : Ky} {k n x : Int} {s : ByteArray} {ks' : List Ky} {vs' : List Tr} {A : Option Addr} {c : Nat} (hy : I64 y.num ∧ y.str.size ≤ maxLen) (ht : TIn w Q (.mk k n s x ks' vs') (vV k n s x A vs'.length c)) (hQ : ∀ b, Q b → v.ownBlock ≠ some b)
    {v' : Value} (ho : w'.ownsRow 0 IE 8 v' (vs.length + 1) (xs ++ [.bool y.text, .int .i64 y.num, .string y.str, .int .i64 k, .int .i64 n, .string s, .int .i64 x, .slice A vs'.length c])) (hg : w.grownBy w' v.ownBlock) (hat : v'.ownBlock = v.ownBlock ∨ v'.ownBlock = some w.heap.size) :
    OwR w' (fun b => ((P b ∧ v.ownBlock ≠ some b) ∨ Q b) ∨ v'.ownBlock = some b) v' (xs ++ [.bool y.text, .int .i64 y.num, .string y.str, .int .i64 k, .int .i64 n, .string s, .int .i64 x, .slice A vs'.length c]) (ks ++ [y]) (vs ++ [.mk k n s x ks' vs']) := by
  obtain ⟨h1, h0, h2, h3⟩ := h
  have hxl : xs.length = vs.length * 8 := h1.1
  have st : ∀ {t : Tr} {u : Value} {R : Nat → Prop}, (∀ b, R b → v.ownBlock ≠ some b) → (∀ b, R b → (P b ∧ v.ownBlock ≠ some b) ∨ Q b) → TIn w R t u → TIn w' (fun b => (((P b ∧ v.ownBlock ≠ some b) ∨ Q b) ∨ v'.ownBlock = some b) ∧ v'.ownBlock ≠ some b) t u := fun {t u R} hR1 hR2 h => by
    have h' : TIn w (fun b => R b ∧ b < w.heap.size) t u := by
      induction h with
      | mk k n s x ks vs A cap C hk hl hm hcap hc ht ih =>
        refine .mk k n s x ks vs A cap C hk hl hm hcap (fun i hi => ?_) ih
        obtain ⟨a, ha, hS, hky, hs, hj⟩ := hc i hi
        refine ⟨a, ha, ⟨hS, ?_⟩, hky, hs, hj⟩
        have := World.block_lt_of_cell? _ _ hky.1
        rwa [mem.add_block] at this
    exact h'.stays (fun b ⟨hb1, hb3⟩ => ⟨.inl (hR2 b hb1), fun e => by
      rcases hat with h | h
      · exact hR1 b hb1 (h ▸ e)
      · rw [h] at e; injection e with e; omega⟩) (fun b ⟨hb1, hb3⟩ hlt => hg.block b hlt (fun e => hR1 b hb1 e.symm))
  refine ⟨by rw [List.length_append]; exact ho, fun b e => .inr e, by rw [List.length_append, List.length_append, h2]; rfl, fun i hi => ?_⟩
  rw [List.length_append] at hi
  simp only [List.length_cons, List.length_nil] at hi
  by_cases e : i = vs.length
  · subst e
    refine ⟨y, k, n, s, x, ks', vs', A, c, by rw [List.getElem?_append_right (by omega), h2]; simp, by rw [List.getElem?_append_right (by omega)]; simp, hy, fun q hq => ?_, st hQ (fun b hb => .inr hb) ht⟩
    rw [List.getElem?_append_right (by omega), hxl, Nat.add_sub_cancel_left]
    match q, hq with
    | 0, _ => rfl
    | 1, _ => rfl
    | 2, _ => rfl
    | 3, _ => rfl
    | 4, _ => rfl
    | 5, _ => rfl
    | 6, _ => rfl
    | 7, _ => rfl
  · obtain ⟨y1, k1, n1, s1, x1, ks1, vs1, A1, c1, a1, a2, a3, a4, a5⟩ := h3 i (by omega)
    refine ⟨y1, k1, n1, s1, x1, ks1, vs1, A1, c1, by rw [List.getElem?_append_left (by omega)]; exact a1, by rw [List.getElem?_append_left (by omega)]; exact a2, a3, fun q hq => ?_, st (fun b hb => hb.2) (fun b hb => .inl hb) a5⟩
    rw [List.getElem?_append_left (by omega)]
    exact a4 q hq

theorem OwR.isinP (h : OwR w P v xs ks vs) (hm : vs.length ≤ maxLen) : ∃ A c, v = .slice A vs.length c ∧ (vs.length ≤ c ∧ c ≤ maxLen) ∧ IsIn w P ks vs A := by
  obtain ⟨h1, h0, h2, h3⟩ := h
  rcases h1.2 with ⟨rfl, h0'⟩ | ⟨g, cap, cur, rfl, hlo, hg, hnc, hcm, hsz, htk⟩
  · obtain rfl : vs = [] := List.length_eq_zero_iff.1 h0'
    obtain rfl : ks = [] := List.length_eq_zero_iff.1 h2
    exact ⟨none, 0, rfl, ⟨by simp, by simp⟩, IsIn.nil _ _ _⟩
  · refine ⟨some ⟨g, 0, none⟩, cap, rfl, ⟨hnc, hcm⟩, h2, hm, ?_⟩
    have each : ∀ i, ∃ C : Array Value, ∀ (hi : i < vs.length), KyAt w ⟨g, 0, none⟩ i (ks[i]'(h2 ▸ hi)) ∧ C.size = 5 ∧ (∀ j, j < 5 → w.cell? ((⟨g, 0, none⟩ : Addr).add (8 * i + (3 + j))) = C[j]?) ∧ TIn w P (vs[i]) (.agg C) := by
      intro i
      by_cases hi : i < vs.length
      · obtain ⟨y, k, n, s, x, ks', vs', A, c, hy, ht, hyb, hat, hT⟩ := h3 i hi
        have ey : ks[i]'(h2 ▸ hi) = y := by rw [List.getElem?_eq_getElem (h2 ▸ hi)] at hy; exact Option.some.inj hy
        have et : vs[i] = .mk k n s x ks' vs' := by rw [List.getElem?_eq_getElem hi] at ht; exact Option.some.inj ht
        have at_ : ∀ q, q < 8 → w.cell? ((⟨g, 0, none⟩ : Addr).add (8 * i + q)) = (eV y k n s x A vs'.length c).cells[q]? := fun q hq => by
          rw [Addr.add_lit, Nat.zero_add, cell_of_row w g _ cur IE _ hg, ← hat q hq, ← htk, List.getElem?_take_of_lt (by omega), Nat.mul_comm]
          simp
        refine ⟨#[.int .i64 k, .int .i64 n, .string s, .int .i64 x, .slice A vs'.length c], fun _ => ?_⟩
        rw [ey, et]
        refine ⟨⟨at_ 0 (by omega), at_ 1 (by omega), at_ 2 (by omega), hyb⟩, rfl, fun j hj => ?_, hT.stays (fun b hb => hb.1) (fun b _ _ => rfl)⟩
        rw [at_ (3 + j) (by omega)]
        match j, hj with
        | 0, _ => rfl
        | 1, _ => rfl
        | 2, _ => rfl
        | 3, _ => rfl
        | 4, _ => rfl
      · exact ⟨#[], fun h => absurd h hi⟩
    exact ⟨fun i => (each i).choose, fun i hi => ⟨_, rfl, h0 g rfl, ((each i).choose_spec hi).1, ((each i).choose_spec hi).2.1, ((each i).choose_spec hi).2.2.1⟩, fun i hi => ((each i).choose_spec hi).2.2.2⟩

/-- Items in a row of the call's own, all of whose blocks are plain and lie at lo or above. -/
def OwP (w : World) (lo : Nat) (v : Value) (xs : List Value) (ks : List Ky) (vs : List Tr) : Prop := OwR w (Nw lo w) v xs ks vs
theorem OwP.nil (w : World) (lo : Nat) : OwP w lo (.slice none 0 0) [] [] [] := ⟨World.ownsRow_nil w 0 _ 8, fun b e => by simp [Value.ownBlock] at e, rfl, fun i hi => absurd hi (by simp)⟩
theorem Plain.same {b : Nat} (h : Plain w b) (hs : w'.heap[b]? = w.heap[b]?) : Plain w' b := by
  obtain ⟨cs, t, hc⟩ := h
  exact ⟨cs, t, hs.trans hc⟩
theorem OwP.above {lo : Nat} (h : OwP w lo v xs ks vs) (hs : ∀ b, lo ≤ b → b < w.heap.size → w'.heap[b]? = w.heap[b]?) : OwP w' lo v xs ks vs :=
  (OwR.keep h fun b hb hl => hs b hb.1 hl).mono fun b hb => ⟨hb.1, hb.2.same (hs b hb.1 hb.2.lt)⟩
theorem OwP.below {lo : Nat} (h : OwP w lo v xs ks vs) (hb : Below w.heap.size w w') : OwP w' lo v xs ks vs := h.above fun b _ hl => hb.block b hl
theorem OwP.mono {lo lo' : Nat} (h : OwP w lo v xs ks vs) (hl : lo' ≤ lo) : OwP w lo' v xs ks vs := OwR.mono h fun b hb => ⟨Nat.le_trans hl hb.1, hb.2⟩
theorem OwP.block {lo : Nat} (h : OwP w lo v xs ks vs) : ∀ k, v.ownBlock = some k → lo ≤ k ∧ k < w.heap.size := fun k e => ⟨(h.2.1 k e).1, (h.2.1 k e).2.lt⟩
theorem OwP.len {lo : Nat} (h : OwP w lo v xs ks vs) : ks.length = vs.length := h.2.2.1
theorem OwP.isin {lo : Nat} (h : OwP w lo v xs ks vs) (hm : vs.length ≤ maxLen) : ∃ A c, v = .slice A vs.length c ∧ (vs.length ≤ c ∧ c ≤ maxLen) ∧ IsIn w (Nw lo w) ks vs A := OwR.isinP h hm
/-- One more, whose blocks are new. -/
theorem OwP.more {lo lq : Nat} (h : OwP w lo v xs ks vs) (hlq : lo ≤ lq) (hvq : ∀ b, v.ownBlock = some b → b < lq)
    {y : Ky} {k n x : Int} {s : ByteArray} {ks' : List Ky} {vs' : List Tr} {A : Option Addr} {c : Nat} (hy : I64 y.num ∧ y.str.size ≤ maxLen) (ht : TIn w (Nw lq w) (.mk k n s x ks' vs') (vV k n s x A vs'.length c))
    {v' : Value} (ho : w'.ownsRow 0 IE 8 v' (vs.length + 1) (xs ++ [.bool y.text, .int .i64 y.num, .string y.str, .int .i64 k, .int .i64 n, .string s, .int .i64 x, .slice A vs'.length c])) (hg : w.grownBy w' v.ownBlock) (hat : v'.ownBlock = v.ownBlock ∨ v'.ownBlock = some w.heap.size) (hlw : lo ≤ w.heap.size) :
    OwP w' lo v' (xs ++ [.bool y.text, .int .i64 y.num, .string y.str, .int .i64 k, .int .i64 n, .string s, .int .i64 x, .slice A vs'.length c]) (ks ++ [y]) (vs ++ [.mk k n s x ks' vs']) := by
  have hm := OwR.more (Q := Nw lq w) h hy ht (fun b hb e => by have := hvq b e; have := hb.1; omega) ho hg hat
  have hown : ∀ b, v'.ownBlock = some b → lo ≤ b ∧ Plain w' b := fun b e => by
    refine ⟨?_, ?_⟩
    · rcases hat with h' | h'
      · exact (OwP.block h b (h' ▸ e)).1
      · rw [h'] at e; injection e with e; omega
    · rcases ho.2 with ⟨rfl, h'⟩ | ⟨g, cap, cur, rfl, hlo, hgc, hr⟩
      · simp [Value.ownBlock] at e
      · simp [Value.ownBlock] at e
        subst e
        exact ⟨cur, IE, hgc⟩
  refine OwR.mono hm fun b hb => ?_
  rcases hb with (⟨hb, hne⟩ | hb) | hb
  · exact ⟨hb.1, hb.2.same (hg.block b hb.2.lt (fun e => hne e.symm))⟩
  · exact ⟨Nat.le_trans hlq hb.1, hb.2.same (hg.block b hb.2.lt (fun e => by have := hvq b e.symm; have := hb.1; omega))⟩
  · exact hown b hb
end

end Go.Proofs.YtdglmnmalfpipaaGreatDoor.tree

/-
  Values that lie in blocks of their own, whichever is the older one; a row of the call's own that holds such values, made by append.
  Conditions: those that each theorem names.
-/
namespace Go.Proofs.YtdglmnmalfpipaaGreatDoor.tree
open Go.ChangeShapes Go.WideShapes Go.ChangeAt Go.RowKit
set_option linter.unusedVariables false

section
variable {w w' : World} {rk rk' : Nat → Nat} {par par' : Nat → Nat × Nat} {here here' : Nat × Nat}
/-- Other ranks and other places, alike. -/
theorem TRk.inner {c : Nat} {t : Tr} {v : Value} (h : TRk w rk par here t v) (h0 : rk here.1 ≠ 0) (hp : ∀ b, rk b ≠ 0 → rk (par b).1 ≠ 0 → par' b = par b) (hr : ∀ b, rk b ≠ 0 → rk' b = rk b + c) : TRk w rk' par' here t v := by
  induction h with
  | mk here k n s x ks vs A cap g arr K N X Z D H hk hl hm hcap hg hc ht ih =>
    by_cases hz : 0 < vs.length
    · obtain ⟨hA, hpg, hlt, hb, hs2⟩ := hg hz
      have hg0 : rk g ≠ 0 := by omega
      refine .mk here k n s x ks vs A cap g arr K N X Z D H hk hl hm hcap (fun _ => ⟨hA, (hp g hg0 (by rw [hpg]; exact h0)).trans hpg, ?_, hb, hs2⟩) hc (fun i hi L hL => ih i hi L hL hg0)
      rw [hr _ h0, hr _ hg0]
      omega
    · exact .mk here k n s x ks vs A cap g arr K N X Z D H hk hl hm hcap (fun h => absurd h hz) hc (fun i hi => absurd hi (by omega))
theorem TRk.outer {c : Nat} {t : Tr} {v : Value} (h : TRk w rk par here t v) (h0 : rk here.1 = 0) (hp : ∀ b, rk b ≠ 0 → par' b = if par b = here then here' else par b) (hr : ∀ b, rk b ≠ 0 → rk' b = rk b + c) (hc' : rk' here'.1 ≤ c) : TRk w rk' par' here' t v := by
  cases h with
  | mk _ k n s x ks vs A cap g arr K N X Z D H hk hl hm hcap hg hc ht =>
    by_cases hz : 0 < vs.length
    · obtain ⟨hA, hpg, hlt, hb, hs2⟩ := hg hz
      have hg0 : rk g ≠ 0 := by omega
      refine .mk here' k n s x ks vs A cap g arr K N X Z D H hk hl hm hcap (fun _ => ⟨hA, (hp g hg0).trans (if_pos hpg), ?_, hb, hs2⟩) hc (fun i hi L hL => (ht i hi L hL).inner (c := c) hg0 (fun b hb0 hb1 => ?_) hr)
      · rw [hr _ hg0]; omega
      · rw [hp b hb0, if_neg]
        intro e
        rw [e] at hb1
        exact hb1 h0
    · exact .mk here' k n s x ks vs A cap g arr K N X Z D H hk hl hm hcap (fun h => absurd h hz) hc (fun i hi => absurd hi (by omega))
theorem HangR.nz {b : Nat} (h : HangR rk par here b) : rk b ≠ 0 := by
  cases h with
  | root _ e hlt => omega
  | step _ g i e hlt hh => omega
end

/-- The value is the tree, in blocks of its own, all of them in F. -/
def FIn (w : World) (F : Nat → Prop) (t : Tr) (v : Value) : Prop := ∃ rk par here, TRk w rk par here t v ∧ rk here.1 = 0 ∧ ∀ b, rk b ≠ 0 → F b
section
variable {w w' : World} {F F' : Nat → Prop} {t : Tr} {v : Value}
theorem FIn.keep (h : FIn w F t v) (hs : ∀ b, F b → b < w.heap.size → w'.heap[b]? = w.heap[b]?) : FIn w' F t v := by
  obtain ⟨rk, par, here, h1, h2, h3⟩ := h
  exact ⟨rk, par, here, h1.keep fun b hb hlt => hs b (h3 b hb.nz) hlt, h2, h3⟩
theorem FIn.below (h : FIn w F t v) (hb : Below w.heap.size w w') : FIn w' F t v := h.keep fun b _ hlt => hb.block b hlt
theorem FIn.mono (h : FIn w F t v) (hs : ∀ b, F b → F' b) : FIn w F' t v := by
  obtain ⟨rk, par, here, h1, h2, h3⟩ := h
  exact ⟨rk, par, here, h1, h2, fun b hb => hs b (h3 b hb)⟩
theorem FIn.tin (h : FIn w F t v) : TIn w (Nw 0 w) t v := by
  obtain ⟨rk, par, here, h1, h2, h3⟩ := h
  exact h1.tin
theorem FIn.leaf {k n x : Int} {s : ByteArray} (hk : I64 k ∧ I64 n ∧ I64 x ∧ s.size ≤ maxLen) (A : Option Addr) (c : Nat) (hc : c ≤ maxLen) : FIn w F (.mk k n s x [] []) (vV k n s x A 0 c) :=
  ⟨fun _ => 0, fun _ => (0, 0), (0, 0), TRk.of hk rfl ⟨Nat.zero_le _, hc⟩ (fun h => absurd h (by simp)), rfl, fun b h => absurd rfl h⟩
end

/-- A row of the call's own from lo on, made by append, whose values lie apart: those of item i in G i. -/
def FRow (w : World) (lo : Nat) (v : Value) (xs : List Value) (ks : List Ky) (vs : List Tr) (G : Nat → Nat → Prop) : Prop :=
  w.ownsRow lo IE 8 v vs.length xs ∧ ks.length = vs.length ∧ ∀ i, i < vs.length → ∃ y k n s x ks' vs' A c, ks[i]? = some y ∧ vs[i]? = some (.mk k n s x ks' vs') ∧ (I64 y.num ∧ y.str.size ≤ maxLen) ∧
    xAt8 xs i y k n s x A vs'.length c ∧ FIn w (G i) (.mk k n s x ks' vs') (vV k n s x A vs'.length c) ∧ ∀ b, G i b → (lo ≤ b ∧ b < w.heap.size ∧ v.ownBlock ≠ some b) ∧ ∀ j, j < i → ¬ G j b
section
variable {w w' : World} {lo : Nat} {v : Value} {xs : List Value} {ks : List Ky} {vs : List Tr} {G : Nat → Nat → Prop}
theorem FRow.nil (w : World) (lo : Nat) (G : Nat → Nat → Prop) : FRow w lo (.slice none 0 0) [] [] [] G := ⟨World.ownsRow_nil w lo _ 8, rfl, fun i hi => absurd hi (by simp)⟩
theorem FRow.len (h : FRow w lo v xs ks vs G) : ks.length = vs.length := h.2.1
theorem FRow.block (h : FRow w lo v xs ks vs G) : ∀ b, v.ownBlock = some b → lo ≤ b ∧ b < w.heap.size := fun b e => World.ownsRow.lt h.1 b e
theorem FRow.keep (h : FRow w lo v xs ks vs G) (hz : w.heap.size ≤ w'.heap.size) (hs : ∀ b, lo ≤ b → b < w.heap.size → w'.heap[b]? = w.heap[b]?) : FRow w' lo v xs ks vs G := by
  obtain ⟨h1, h2, h3⟩ := h
  refine ⟨⟨h1.1, ?_⟩, h2, fun i hi => ?_⟩
  · rcases h1.2 with h | ⟨g, cap, cur, e, hl, hg, hr⟩
    · exact .inl h
    · exact .inr ⟨g, cap, cur, e, hl, (hs g hl (Array.getElem?_eq_some_iff.1 hg).1).trans hg, hr⟩
  · obtain ⟨y, k, n, s, x, ks', vs', A, c, a1, a2, a3, a4, a5, a6⟩ := h3 i hi
    exact ⟨y, k, n, s, x, ks', vs', A, c, a1, a2, a3, a4, a5.keep fun b hb hlt => hs b (a6 b hb).1.1 hlt, fun b hb => ⟨⟨(a6 b hb).1.1, Nat.lt_of_lt_of_le (a6 b hb).1.2.1 hz, (a6 b hb).1.2.2⟩, (a6 b hb).2⟩⟩
theorem FRow.below (h : FRow w lo v xs ks vs G) (hb : Below w.heap.size w w') : FRow w' lo v xs ks vs G := h.keep hb.size fun b _ hl => hb.block b hl
theorem FRow.isin (h : FRow w lo v xs ks vs G) : ∃ A c, v = .slice A vs.length c ∧ (vs.length ≤ c ∧ c ≤ maxLen) := by
  rcases h.1.2 with ⟨rfl, h0'⟩ | ⟨g, cap, cur, rfl, hlo, hg, hnc, hcm, hsz, htk⟩
  · exact ⟨none, 0, by rw [h0'], by rw [h0']; exact ⟨Nat.zero_le _, Nat.zero_le _⟩⟩
  · exact ⟨_, _, rfl, hnc, hcm⟩
/-- One more, whose blocks are new: at lq or above, and not the row's. -/
theorem FRow.more (h : FRow w lo v xs ks vs G) {F : Nat → Prop}
    {y : Ky} {k n x : Int} {s : ByteArray} {ks' : List Ky} {vs' : List Tr} {A : Option Addr} {c : Nat} (hy : I64 y.num ∧ y.str.size ≤ maxLen) (ht : FIn w F (.mk k n s x ks' vs') (vV k n s x A vs'.length c))
    (hF : ∀ b, F b → (lo ≤ b ∧ b < w.heap.size ∧ v.ownBlock ≠ some b) ∧ ∀ j, j < vs.length → ¬ G j b)
    {v' : Value} (ho : w'.ownsRow lo IE 8 v' (vs.length + 1) (xs ++ [.bool y.text, .int .i64 y.num, .string y.str, .int .i64 k, .int .i64 n, .string s, .int .i64 x, .slice A vs'.length c])) (hg : w.grownBy w' v.ownBlock) (hat : v'.ownBlock = v.ownBlock ∨ v'.ownBlock = some w.heap.size) (hz : w.heap.size ≤ w'.heap.size) :
    FRow w' lo v' (xs ++ [.bool y.text, .int .i64 y.num, .string y.str, .int .i64 k, .int .i64 n, .string s, .int .i64 x, .slice A vs'.length c]) (ks ++ [y]) (vs ++ [.mk k n s x ks' vs']) (fun i => if i = vs.length then F else G i) := by
  obtain ⟨h1, h2, h3⟩ := h
  have hxl : xs.length = vs.length * 8 := h1.1
  have st : ∀ {t : Tr} {u : Value} {R : Nat → Prop}, (∀ b, R b → v.ownBlock ≠ some b) → FIn w R t u → FIn w' R t u := fun {t u R} hR h => h.keep fun b hb hlt => hg.block b hlt fun e => hR b hb e.symm
  have nb : ∀ b, (lo ≤ b ∧ b < w.heap.size ∧ v.ownBlock ≠ some b) → lo ≤ b ∧ b < w'.heap.size ∧ v'.ownBlock ≠ some b := fun b hb => ⟨hb.1, Nat.lt_of_lt_of_le hb.2.1 hz, fun e => by
    rcases hat with h | h
    · exact hb.2.2 (h ▸ e)
    · rw [h] at e; injection e with e; have := hb.2.1; omega⟩
  refine ⟨by rw [List.length_append]; exact ho, by rw [List.length_append, List.length_append, h2]; rfl, fun i hi => ?_⟩
  rw [List.length_append] at hi
  simp only [List.length_cons, List.length_nil] at hi
  by_cases e : i = vs.length
  · subst e
    refine ⟨y, k, n, s, x, ks', vs', A, c, by rw [List.getElem?_append_right (by omega), h2]; simp, by rw [List.getElem?_append_right (by omega)]; simp, hy, fun q hq => ?_, by show FIn w' (if vs.length = vs.length then F else G vs.length) _ _; rw [if_pos rfl]; exact st (fun b hb => (hF b hb).1.2.2) ht, fun b hb => ?_⟩
    · rw [List.getElem?_append_right (by omega), hxl, Nat.add_sub_cancel_left]
      match q, hq with
      | 0, _ => rfl
      | 1, _ => rfl
      | 2, _ => rfl
      | 3, _ => rfl
      | 4, _ => rfl
      | 5, _ => rfl
      | 6, _ => rfl
      | 7, _ => rfl
    · replace hb : (if vs.length = vs.length then F else G vs.length) b := hb
      rw [if_pos rfl] at hb
      exact ⟨nb b (hF b hb).1, fun j hj => by show ¬ (if j = vs.length then F else G j) b; rw [if_neg (by omega)]; exact (hF b hb).2 j hj⟩
  · obtain ⟨y1, k1, n1, s1, x1, ks1, vs1, A1, c1, a1, a2, a3, a4, a5, a6⟩ := h3 i (by omega)
    refine ⟨y1, k1, n1, s1, x1, ks1, vs1, A1, c1, by rw [List.getElem?_append_left (by omega)]; exact a1, by rw [List.getElem?_append_left (by omega)]; exact a2, a3, fun q hq => ?_, by show FIn w' (if i = vs.length then F else G i) _ _; rw [if_neg e]; exact st (fun b hb => (a6 b hb).1.2.2) a5, fun b hb => ?_⟩
    · rw [List.getElem?_append_left (by omega)]
      exact a4 q hq
    · replace hb : (if i = vs.length then F else G i) b := hb
      rw [if_neg e] at hb
      exact ⟨nb b (a6 b hb).1, fun j hj => by show ¬ (if j = vs.length then F else G j) b; rw [if_neg (by omega)]; exact (a6 b hb).2 j hj⟩

open Classical in
/-- The row as the items of a value. -/
theorem FRow.out (h : FRow w lo v xs ks vs G) (hm : vs.length ≤ maxLen) {k n x : Int} {s : ByteArray} (hk : I64 k ∧ I64 n ∧ I64 x ∧ s.size ≤ maxLen) :
    ∃ A c, v = .slice A vs.length c ∧ (vs.length ≤ c ∧ c ≤ maxLen) ∧ FIn w (fun b => lo ≤ b ∧ b < w.heap.size) (.mk k n s x ks vs) (vV k n s x A vs.length c) := by
  obtain ⟨h1, h2, h3⟩ := h
  rcases h1.2 with ⟨rfl, h0'⟩ | ⟨g, cap, cur, rfl, hlo, hg, hnc, hcm, hsz, htk⟩
  · obtain rfl : vs = [] := List.length_eq_zero_iff.1 h0'
    obtain rfl : ks = [] := List.length_eq_zero_iff.1 h2
    exact ⟨none, 0, rfl, ⟨by simp, by simp⟩, FIn.leaf hk none 0 (by simp)⟩
  refine ⟨some ⟨g, 0, none⟩, cap, rfl, ⟨hnc, hcm⟩, ?_⟩
  have each : ∀ i, ∃ (rk : Nat → Nat) (par : Nat → Nat × Nat) (here : Nat × Nat), ∀ (hi : i < vs.length), ∃ y k n s x ks' vs' A c, ks[i]? = some y ∧ vs[i]? = some (.mk k n s x ks' vs') ∧ (I64 y.num ∧ y.str.size ≤ maxLen) ∧
      xAt8 xs i y k n s x A vs'.length c ∧ TRk w rk par here (.mk k n s x ks' vs') (vV k n s x A vs'.length c) ∧ rk here.1 = 0 ∧ ∀ b, rk b ≠ 0 → G i b := fun i => by
    by_cases hi : i < vs.length
    · obtain ⟨y, k, n, s, x, ks', vs', A, c, a1, a2, a3, a4, ⟨rk, par, here, b1, b2, b3⟩, a6⟩ := h3 i hi
      exact ⟨rk, par, here, fun _ => ⟨y, k, n, s, x, ks', vs', A, c, a1, a2, a3, a4, b1, b2, b3⟩⟩
    · exact ⟨fun _ => 0, fun _ => (0, 0), (0, 0), fun h => absurd h hi⟩
  have sep : ∀ i j b, i < vs.length → j < vs.length → G i b → G j b → i = j := fun i j b hi hj hbi hbj => by
    obtain ⟨_, _, _, _, _, _, _, _, _, -, -, -, -, -, a6⟩ := h3 i hi
    obtain ⟨_, _, _, _, _, _, _, _, _, -, -, -, -, -, b6⟩ := h3 j hj
    rcases Nat.lt_trichotomy i j with h | h | h
    · exact absurd hbi ((b6 b hbj).2 i h)
    · exact h
    · exact absurd hbj ((a6 b hbi).2 j h)
  have bnd : ∀ i b, i < vs.length → G i b → lo ≤ b ∧ b < w.heap.size ∧ b ≠ g := fun i b hi hb => by
    obtain ⟨_, _, _, _, _, _, _, _, _, -, -, -, -, -, a6⟩ := h3 i hi
    have := (a6 b hb).1
    exact ⟨this.1, this.2.1, fun e => this.2.2 (by rw [e]; rfl)⟩
  have hgl := (Array.getElem?_eq_some_iff.1 hg).1
  let RK : Nat → Nat := fun b => if b = g then 1 else if hh : ∃ i, i < vs.length ∧ G i b then (each hh.choose).choose b + 1 else 0
  let PA : Nat → Nat × Nat := fun b => if b = g then (w.heap.size, 0) else if hh : ∃ i, i < vs.length ∧ G i b then (if (each hh.choose).choose_spec.choose b = (each hh.choose).choose_spec.choose_spec.choose then (g, hh.choose) else (each hh.choose).choose_spec.choose b) else (b, 0)
  have eRK : ∀ i b, i < vs.length → G i b → RK b = (each i).choose b + 1 := fun i b hi hb => by
    have hh : ∃ i, i < vs.length ∧ G i b := ⟨i, hi, hb⟩
    have e : hh.choose = i := sep _ _ b hh.choose_spec.1 hi hh.choose_spec.2 hb
    show (if b = g then 1 else if hh : ∃ i, i < vs.length ∧ G i b then (each hh.choose).choose b + 1 else 0) = _
    rw [if_neg (bnd i b hi hb).2.2, dif_pos hh, e]
  have ePA : ∀ i b, i < vs.length → G i b → PA b = if (each i).choose_spec.choose b = (each i).choose_spec.choose_spec.choose then (g, i) else (each i).choose_spec.choose b := fun i b hi hb => by
    have hh : ∃ i, i < vs.length ∧ G i b := ⟨i, hi, hb⟩
    have e : hh.choose = i := sep _ _ b hh.choose_spec.1 hi hh.choose_spec.2 hb
    show (if b = g then _ else if hh : ∃ i, i < vs.length ∧ G i b then _ else _) = _
    rw [if_neg (bnd i b hi hb).2.2, dif_pos hh, e]
  have eG : RK g = 1 := if_pos rfl
  have e0 : RK w.heap.size = 0 := by
    show (if w.heap.size = g then 1 else if hh : ∃ i, i < vs.length ∧ G i w.heap.size then _ else 0) = 0
    rw [if_neg (by omega), dif_neg]
    rintro ⟨i, hi, hb⟩
    have := (bnd i _ hi hb).2.1
    omega
  refine ⟨RK, PA, (w.heap.size, 0), TRk.of hk h2 ⟨hnc, hcm⟩ (fun _ => ⟨g, rfl, if_pos rfl, by rw [eG]; show RK w.heap.size < 1; omega, cur, hg, by omega, fun i hi => ?_⟩), e0, fun b hb => ?_⟩
  · obtain ⟨y, k, n, s, x, ks', vs', A, c, a1, a2, a3, a4, b1, b2, b3⟩ := (each i).choose_spec.choose_spec.choose_spec hi
    refine ⟨y, k, n, s, x, ks', vs', A, c, a1, a2, a3, fun q hq => ?_, b1.outer (c := 1) b2 (fun b hb => ePA i b hi (b3 b hb)) (fun b hb => eRK i b hi (b3 b hb)) (by show RK g ≤ 1; omega)⟩
    rw [← a4 q hq, ← htk, List.getElem?_take_of_lt (by omega)]
    simp
  · by_cases e : b = g
    · subst e
      exact ⟨hlo, hgl⟩
    · by_cases hh : ∃ i, i < vs.length ∧ G i b
      · obtain ⟨i, hi, hbi⟩ := hh
        have := bnd i b hi hbi
        exact ⟨this.1, this.2.1⟩
      · exact absurd (show RK b = 0 by show (if b = g then 1 else if hh : ∃ i, i < vs.length ∧ G i b then _ else 0) = 0; rw [if_neg e, dif_neg hh]) hb
end

end Go.Proofs.YtdglmnmalfpipaaGreatDoor.tree

/-
  How much a value that is read off a text holds.
  Conditions: those that each theorem names.
-/
namespace Go.Proofs.YtdglmnmalfpipaaGreatDoor.tree
open Go.ChangeShapes Go.WideShapes Go.ChangeAt Go.RowKit
set_option linter.unusedVariables false

theorem tot_leaf (k n : Int) (s : ByteArray) : tot (leaf k n s) = s.size := by unfold leaf; rw [tot]; simp [tots]
theorem pf_tot {p l r : List UInt8} (h : pf p l = some r) : p.length + r.length = l.length := by rw [pf_out h, List.length_append]
theorem nm_tot {c : UInt8} {lo hi n : Int} {l r : List UInt8} (h : nm c lo hi l = some (n, r)) : r.length + 1 ≤ l.length := by
  rw [(nm_out h).1]
  simp only [List.length_append, List.length_cons]
  omega
theorem tx_tot {l d q : List UInt8} (h : tx l = some (d, q)) : d.length + q.length + 1 ≤ l.length := by
  rw [tx_out h]
  simp only [List.length_append, List.length_cons, List.length_nil]
  omega
theorem rdK_tot {l r : List UInt8} {y : Ky} (h : rdK l = some (y, r)) : y.str.size + 1 + r.length ≤ l.length := by
  unfold rdK at h
  split at h
  · rename_i r1 h1
    obtain ⟨⟨n, r2⟩, h2, h3⟩ := Option.map_eq_some_iff.1 h
    cases h3
    have a := pf_tot h1
    have b := nm_tot h2
    show (⟨#[]⟩ : ByteArray).size + 1 + r2.length ≤ _
    simp only [List.length_cons, List.length_nil] at a
    have : (⟨#[]⟩ : ByteArray).size = 0 := rfl
    omega
  · split at h
    · rename_i r1 h1
      obtain ⟨⟨d, r2⟩, h2, h3⟩ := Option.map_eq_some_iff.1 h
      cases h3
      have a := pf_tot h1
      have b := tx_tot h2
      show (bz d).size + 1 + r2.length ≤ _
      simp only [List.length_cons, List.length_nil] at a
      rw [bz_size]
      omega
    · cases h
theorem rdS_tot {l r : List UInt8} {t : Tr} (h : rdS l = some (some (t, r))) : tot t + r.length + 1 ≤ l.length := by
  have e0 : (⟨#[]⟩ : ByteArray).size = 0 := rfl
  unfold rdS at h
  split at h
  · rename_i r1 h1
    cases h
    have a := pf_tot h1
    simp only [List.length_cons, List.length_nil] at a
    rw [tot_leaf]
    omega
  · split at h
    · rename_i r1 h1
      cases h
      have a := pf_tot h1
      simp only [List.length_cons, List.length_nil] at a
      rw [tot_leaf]
      omega
    · split at h
      · rename_i r1 h1
        cases h
        have a := pf_tot h1
        simp only [List.length_cons, List.length_nil] at a
        rw [tot_leaf]
        omega
      · split at h
        · rename_i r1 h1
          obtain ⟨⟨n, r2⟩, h2, h3⟩ := Option.map_eq_some_iff.1 (Option.some.inj h)
          cases h3
          have a := pf_tot h1
          have b := nm_tot h2
          simp only [List.length_cons, List.length_nil] at a
          show tot (leaf 2 n ⟨#[]⟩) + r2.length + 1 ≤ _
          rw [tot_leaf]
          omega
        · split at h
          · rename_i r1 h1
            obtain ⟨⟨d, r2⟩, h2, h3⟩ := Option.map_eq_some_iff.1 (Option.some.inj h)
            cases h3
            have a := pf_tot h1
            have b := tx_tot h2
            simp only [List.length_cons, List.length_nil] at a
            show tot (leaf 3 0 (bz d)) + r2.length + 1 ≤ _
            rw [tot_leaf, bz_size]
            omega
          · cases h
theorem its_tot {rd : Nat → List UInt8 → Option (Tr × List UInt8 × Nat)} (hrd : ∀ W l t r W', rd W l = some (t, r, W') → tot t + r.length + 1 ≤ l.length) : ∀ (n W : Nat) (l : List UInt8) (ks : List Ky) (vs : List Tr) (r : List UInt8) (W' : Nat), its rd n W l = some (ks, vs, r, W') → vs.length + tots ks vs + r.length ≤ l.length
  | 0, W, l, ks, vs, r, W', h => by rw [its] at h; cases h; simp [tots]
  | n + 1, W, l, ks, vs, r, W', h => by
    rw [its] at h
    obtain ⟨⟨y, l1⟩, h1, h⟩ := Option.bind_eq_some_iff.1 h
    obtain ⟨⟨t, l2, W2⟩, h2, h⟩ := Option.bind_eq_some_iff.1 h
    obtain ⟨⟨ks', vs', r', W3⟩, h3, h⟩ := Option.map_eq_some_iff.1 h
    cases h
    have a := rdK_tot h1
    have b : tot t + l2.length + 1 ≤ l1.length := hrd _ _ _ _ _ h2
    have c : vs'.length + tots ks' vs' + r'.length ≤ l2.length := its_tot hrd n _ _ _ _ _ _ h3
    show (t :: vs').length + tots (y :: ks') (t :: vs') + r'.length ≤ l.length
    rw [tots_cons, List.length_cons]
    omega
theorem rdP_tot : ∀ (f W : Nat) (l : List UInt8) (t : Tr) (r : List UInt8) (W' : Nat), rdP f W l = some (t, r, W') → tot t + r.length + 1 ≤ l.length
  | 0, W, l, t, r, W', h => by rw [rdP] at h; cases h
  | f + 1, 0, l, t, r, W', h => by rw [rdP] at h; cases h
  | f + 1, W + 1, l, t, r, W', h => by
    rw [rdP] at h
    split at h
    · rename_i o ho
      obtain ⟨⟨t', r'⟩, h1, h2⟩ := Option.map_eq_some_iff.1 h
      cases h2
      subst h1
      exact rdS_tot ho
    · split at h
      · rename_i r1 h1
        unfold rdA at h
        obtain ⟨⟨n, l1⟩, h2, h⟩ := Option.bind_eq_some_iff.1 h
        obtain ⟨⟨x, l2⟩, h3, h⟩ := Option.bind_eq_some_iff.1 h
        obtain ⟨⟨ks, vs, l3, W3⟩, h4, h⟩ := Option.bind_eq_some_iff.1 h
        obtain ⟨e, h5, h⟩ := Option.map_eq_some_iff.1 h
        cases h
        have a := pf_tot h1
        have b := nm_tot h2
        have c := nm_tot h3
        have d : vs.length + tots ks vs + l3.length ≤ l2.length := its_tot (rdP_tot f) _ _ _ _ _ _ _ h4
        have e := pf_tot h5
        have e0 : (⟨#[]⟩ : ByteArray).size = 0 := rfl
        simp only [List.length_cons, List.length_nil] at a b c d e
        show tot (.mk 4 0 ⟨#[]⟩ x ks vs) + _ + 1 ≤ _
        rw [tot, e0]
        show 0 + (vs.length + tots ks vs) + _ + 1 ≤ _
        omega
      · cases h
/-- The text's value, or null; and whether there is one. -/
def nulT : Tr := .mk 0 0 ⟨#[]⟩ 0 [] []
def unT (l : List UInt8) : Tr := (unP l).getD nulT
def unB (l : List UInt8) : Bool := (unP l).isSome
theorem unP_no {l : List UInt8} (h : rdP 200 200 l = none) : unP l = none := by unfold unP; rw [h]; rfl
theorem unP_is {l r : List UInt8} {t : Tr} {W : Nat} (h : rdP 200 200 l = some (t, r, W)) : unP l = if r = [] ∧ valB t = true then some t else none := by unfold unP; rw [h]; rfl

end Go.Proofs.YtdglmnmalfpipaaGreatDoor.tree

