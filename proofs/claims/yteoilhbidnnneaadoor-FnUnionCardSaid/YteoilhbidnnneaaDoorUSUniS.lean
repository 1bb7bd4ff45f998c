/-
  The union of the model, item by item.
  Conditions: the values hold at most 9 * 10^8 values; the right one's keys are those of a valid array.
-/
import Derived.Test.YteoilhbidnnneaaDoorUB3
import Derived.Test.YteoilhbidnnneaaDoorUSSetP
namespace Go.Proofs.YteoilhbidnnneaaDoor.tree
open Go.ChangeShapes Go.WideShapes Go.ChangeAt Go.RowKit
set_option linter.unusedVariables false

/-- What the round of the model's union knows. -/
structure UnR (ks ks' : List Ky) (vs vs' : List Tr) (j : Nat) (K : List Ky) (V : List Tr) : Prop where
  len : K.length = V.length
  sub : ∀ z ∈ K, z ∈ ks'.take j
  keys : K ++ uk ks (ks'.drop j) (vs'.drop j) = uk ks ks' vs'
  vals : V ++ uv ks (ks'.drop j) (vs'.drop j) = uv ks ks' vs'
theorem UnR.start (ks ks' : List Ky) (vs vs' : List Tr) : UnR ks ks' vs vs' 0 [] [] := ⟨rfl, fun z hz => by simp at hz, by simp, by simp⟩
theorem UnR.skip {ks ks' : List Ky} {vs vs' : List Tr} {j : Nat} {K : List Ky} {V : List Tr} (h : UnR ks ks' vs vs' j K V) {y : Ky} {t : Tr} (hy : ks'[j]? = some y) (ht : vs'[j]? = some t) (hm : y ∈ ks) : UnR ks ks' vs vs' (j + 1) K V := by
  obtain ⟨e1, e2⟩ := u_drop (K := ks) hy ht
  rw [if_pos hm] at e1 e2
  refine ⟨h.len, fun z hz => ?_, e1 ▸ h.keys, e2 ▸ h.vals⟩
  obtain ⟨hj, rfl⟩ := List.getElem?_eq_some_iff.1 hy
  rw [List.take_succ_eq_append_getElem hj]
  exact List.mem_append_left _ (h.sub z hz)
theorem UnR.more {ks ks' : List Ky} {vs vs' : List Tr} {j : Nat} {K : List Ky} {V : List Tr} (h : UnR ks ks' vs vs' j K V) {y : Ky} {t : Tr} (hy : ks'[j]? = some y) (ht : vs'[j]? = some t) (hm : y ∉ ks) : UnR ks ks' vs vs' (j + 1) (K ++ [y]) (V ++ [t]) := by
  obtain ⟨e1, e2⟩ := u_drop (K := ks) hy ht
  rw [if_neg hm] at e1 e2
  refine ⟨by simp [h.len], fun z hz => ?_, by rw [List.append_assoc, List.singleton_append, ← e1]; exact h.keys, by rw [List.append_assoc, List.singleton_append, ← e2]; exact h.vals⟩
  obtain ⟨hj, rfl⟩ := List.getElem?_eq_some_iff.1 hy
  rw [List.take_succ_eq_append_getElem hj]
  rcases List.mem_append.1 hz with h1 | h1
  · exact List.mem_append_left _ (h.sub z h1)
  · exact List.mem_append_right _ h1
theorem UnR.stop {ks ks' : List Ky} {vs vs' : List Tr} {K : List Ky} {V : List Tr} (h : UnR ks ks' vs vs' vs'.length K V) : K = uk ks ks' vs' ∧ V = uv ks ks' vs' := by
  have h1 := h.keys
  have h2 := h.vals
  rw [show vs'.drop vs'.length = [] from List.drop_length, uk_nil, List.append_nil] at h1
  rw [show vs'.drop vs'.length = [] from List.drop_length, uv_nil, List.append_nil] at h2
  exact ⟨h1, h2⟩
theorem cnts_pre : ∀ (a b : List Tr), cnts a ≤ cnts (a ++ b) := fun a b => by rw [cnts_append]; omega

set_option maxRecDepth 100000 in
set_option maxHeartbeats 4000000 in
theorem l10Union_s (n x n' x' : Int) (s s' : ByteArray) (ks ks' : List Ky) (vs vs' : List Tr) (A A' : Option Addr) (c c' : Nat) (w : World)
    (h : TIn w (fun _ => True) (.mk 4 n s x ks vs) (vV 4 n s x A vs.length c)) (h' : TIn w (fun _ => True) (.mk 4 n' s' x' ks' vs') (vV 4 n' s' x' A' vs'.length c')) (hN : cnts vs + cnts vs' ≤ 900000000) (hx : x' ≤ 1000000001) (hv : itemsB x' [] ks' vs' = true) :
    Calls Tryd.prog 41 #[vV 4 n s x A vs.length c, vV 4 n' s' x' A' vs'.length c'] w (OutV w (.mk 4 n s (nums.mx x x') (ks ++ uk ks ks' vs') (vs ++ uv ks ks' vs')) (fun _ => True)) := by
  obtain ⟨_, _, e1, hk, hin⟩ := h.out
  obtain ⟨rfl, rfl⟩ : A = _ ∧ c = _ := by simpa [vV] using e1
  obtain ⟨_, _, e2, hk', hin'⟩ := h'.out
  obtain ⟨rfl, rfl⟩ : A' = _ ∧ c' = _ := by simpa [vV] using e2
  have hcap := h.cap
  have hcl : ks.length = vs.length := hin.1
  have hcl' : ks'.length = vs'.length := hin'.1
  obtain ⟨L, HL⟩ : ∃ L, Hid (vs.length = L) := ⟨_, Lib.hid rfl⟩
  obtain ⟨L', HL'⟩ : ∃ L, Hid (vs'.length = L) := ⟨_, Lib.hid rfl⟩
  have hL : L ≤ 900000000 := by have := cnts_len vs; rw [← HL.out]; omega
  have hL' : L' ≤ 900000000 := by have := cnts_len vs'; rw [← HL'.out]; omega
  have FK : Hid (∀ (y : Ky) w', Below w.heap.size w w' → Calls Tryd.prog 58 #[vV 4 n s x A L c, kyV y] w' (LtQ w' (pos ks y 0))) := Lib.hid (fun y w' hb => by
    have := findV_s (.mk 4 n s x ks vs) (vV 4 n s x A vs.length c) y w' _ (h.below' hb)
    rw [posV_four, HL.out] at this
    exact this)
  have MX := specMax' x x'
  have HT := Lib.hid h.both
  obtain ⟨_, _, e3, -, hinb⟩ := h'.both.out
  obtain ⟨rfl, rfl⟩ : A' = _ ∧ c' = _ := by simpa [vV] using e3
  have HI' := Lib.hid hinb
  have HK := Lib.hid hk
  have HCC := Lib.hid (And.intro hcl hcl')
  have HNN := Lib.hid hN
  have HV := Lib.hid hv
  have HX := Lib.hid hx
  rw [HL.out] at hcap HT
  rw [HL.out, HL'.out]
  obtain ⟨W0, HW0⟩ : ∃ W, Hid (W = (((w.alloc (.cells #[.int .i64 4, .int .i64 n, .string s, .int .i64 x, .slice A L c] IV)).alloc (.cells #[.int .i64 4, .int .i64 n', .string s', .int .i64 x', .slice A' L' c'] IV)).alloc (.cells #[.int .i64 0, .int .i64 0, .string ⟨#[]⟩, .int .i64 0, .slice none 0 0] IV)).alloc (.cells #[.int .i64 4, .int .i64 n, .string s, .int .i64 x, .slice A L c] IV)) := ⟨_, Lib.hid rfl⟩
  obtain ⟨a0, a1, a2, a3, az, ab⟩ := al4 w _ _ _ _ _ _ _ _ _ HW0.out
  have A0 := Lib.hid a0
  have A1 := Lib.hid a1
  have A2 := Lib.hid a2
  have A3 := Lib.hid a3
  have AB := Lib.hid ab
  have AZ := Lib.hid az
  clear h h' hin hin' hinb hk hk' hcl hcl' hN hv hx e1 e2 e3 a0 a1 a2 a3 az ab
  go_enter Tryd.func41, Tryd.ntmps41
  go_wp2_with (fail)
  rw [← HW0.out]
  go_loopg [6] (L' + 1) (fun gk i wr => ∃ (j : Nat) (X : Int) (K : List Ky) (V : List Tr) (Ao : Option Addr) (M co : Nat), i = .int .i64 j ∧ gk + j = L' + 1 ∧ j ≤ L' ∧ Hid (UnR ks ks' vs vs' j K V) ∧ Hid ((vs ++ V).length = M) ∧
    Hid (TIn wr (fun b => b < w.heap.size ∨ w.heap.size + 1 + 1 + 1 < b) (.mk 4 n s X (ks ++ K) (vs ++ V)) (vV 4 n s X Ao M co)) ∧
    Hid (wr.heap[w.heap.size]? = some (.cells #[.int .i64 4, .int .i64 n, .string s, .int .i64 x, .slice A L c] IV (0, 0))) ∧ Hid (wr.heap[w.heap.size + 1]? = some (.cells #[.int .i64 4, .int .i64 n', .string s', .int .i64 x', .slice A' L' c'] IV (0, 0))) ∧
    Hid (wr.heap[w.heap.size + 1 + 1]? = some (.cells #[.int .i64 0, .int .i64 0, .string ⟨#[]⟩, .int .i64 0, .slice none 0 0] IV (0, 0))) ∧ Hid (wr.heap[w.heap.size + 1 + 1 + 1]? = some (.cells #[.int .i64 4, .int .i64 n, .string s, .int .i64 X, .slice Ao M co] IV (0, 0))) ∧ Below w.heap.size w wr)
  case atStart => exact ⟨0, x, [], [], A, L, c, rfl, by omega, by omega, Lib.hid (UnR.start _ _ _ _), Lib.hid (by simpa using HL.out), Lib.hid (by rw [List.append_nil, List.append_nil]; exact (HT.out.below' AB.out).stays (fun b hb => .inl hb.2) (fun _ _ _ => rfl)), A0, A1, A2, A3, AB.out⟩
  case round =>
    obtain ⟨j, X, K, V, Ao, M, co, rfl, hgj, hjL, HU, HM, HO, E0, E1, E2, E3, hb⟩ := hrel
    have HB := Lib.hid hb
    clear hb
    obtain ⟨r0, f0⟩ := rowc E0.out
    obtain ⟨r1, f1⟩ := rowc E1.out
    by_cases hlt : j < L'
    · obtain ⟨a, y, k1, n1, s1, x1, ks1, vs1, A1', c1, rfl, hSa, hky, hvs, ht, hyb, hkb, -, hcell⟩ := (HI'.out.below HB.out).item (i := j) (by rw [HL'.out]; exact hlt)
      obtain ⟨hnew, hbel⟩ := items_key HCC.out.2 HV.out hky
      have hna : (a.add (j * 8)).block ≠ w.heap.size + 1 + 1 + 1 := by rw [mem.add_block]; omega
      clear hSa
      obtain ⟨T1, HT1⟩ : ∃ T, Hid (Tr.mk k1 n1 s1 x1 ks1 vs1 = T) := ⟨_, Lib.hid rfl⟩
      rw [HT1.out] at hvs ht
      obtain ⟨L1, HL1⟩ : ∃ L1, Hid (vs1.length = L1) := ⟨_, Lib.hid rfl⟩
      rw [HL1.out] at ht hcell
      obtain ⟨p0, p1, p2, p3, p4, p5, p6, p7⟩ := hcell
      have FKy := FK.out y
      have hwr : IntKind.i64.wrap ((j : Int) + 1) = (j : Int) + 1 := by rw [IntKind.wrap_i64]; omega
      by_cases hm : y ∈ ks
      · have HU2 := Lib.hid (HU.out.skip hky hvs hm)
        obtain ⟨P, HP⟩ : ∃ P, Hid (pos ks y 0 = P) := ⟨_, Lib.hid rfl⟩
        have hP : 0 ≤ P := by
          have h1 := pos_ge ks y 0
          have h2 : ¬ pos ks y 0 = -1 := fun e => (pos_neg ks y 0).1 e hm
          rw [HP.out] at h1 h2
          simp at h1
          omega
        rw [HP.out] at FKy
        obtain ⟨yb, yn, ys⟩ := y
        unfold kyV at FKy
        have FKH := Lib.hid FKy
        simp only at p0 p1 p2
        have hneg : decide (P < 0) = false := decide_eq_false (by omega)
        clear FKy hky hvs ht hyb hkb hnew hbel hm HP
        go_upto_region 5 with fail
        go_cut [23] (fun v wx => v = .bool false ∧ Below wr.heap.size wr wx)
        case first =>
          go_region_with ((go_at_call 58; refine (FKH.out _ (bs HB.out ((Below.refl wr.heap.size wr).drew))).mono ?_; rintro e w1 ⟨rfl, hb1⟩; have HB1 := Lib.hid (bs ((Below.refl wr.heap.size wr).drew) hb1); clear hb1))
          all_goals
            go_wp2_with (fail)
            go_meet
            exact ⟨rfl, HB1.out⟩
        case rest =>
          obtain ⟨rfl, hbc⟩ := hcut
          have HBC := Lib.hid hbc
          clear hbc p0 p1 p2 p3 p4 p5 p6 p7 FKH r0 f0 r1 f1
          go_wp2_with (fail)
          go_roundg (L' - j)
          case rel => exact ⟨j + 1, X, K, V, Ao, M, co, by go_num, by omega, by omega, HU2, HM, Lib.hid (HO.out.below' HBC.out), Lib.hid (carry HBC.out E0.out), Lib.hid (carry HBC.out E1.out), Lib.hid (carry HBC.out E2.out), Lib.hid (carry HBC.out E3.out), bs HB.out HBC.out⟩
          case measure => omega
      · have HU2 := Lib.hid (HU.out.more hky hvs hm)
        have hP : pos ks y 0 = -1 := (pos_neg ks y 0).2 hm
        rw [hP] at FKy
        have HST : Hid (setT (.mk 4 n s X (ks ++ K) (vs ++ V)) y T1 = .mk 4 n s (nxt X y) (ks ++ (K ++ [y])) (vs ++ (V ++ [T1]))) := Lib.hid (by
          rw [setT_none (by rw [posV_four, pos_neg]; intro hmm; rcases List.mem_append.1 hmm with h1 | h1; exact hm h1; exact hnew (HU.out.sub _ h1)), List.append_assoc, List.append_assoc])
        have hcn : cnt (.mk 4 n s X (ks ++ K) (vs ++ V)) ≤ 1000000000 := by
          have h1 := HNN.out
          have h2 := uv_cnts ks ks' vs'
          rw [← HU.out.vals] at h2
          have h3 := cnts_pre V (uv ks (ks'.drop j) (vs'.drop j))
          rw [cnt_mk', cnts_append]
          omega
        have SP : Hid (∀ w', Below wr.heap.size wr w' → Calls Tryd.prog 48 #[vV 4 n s X Ao M co, kyV y, vV k1 n1 s1 x1 A1' L1 c1] w' (OutP w' (fun b => b < w.heap.size ∨ w.heap.size + 1 + 1 + 1 < b) (.mk 4 n s (nxt X y) (ks ++ (K ++ [y])) (vs ++ (V ++ [T1]))))) := Lib.hid (fun w' hb' => by
          rw [← HST.out]
          exact l6Set_p _ _ y T1 _ w' _ (HO.out.below' hb') ((ht.below' hb').stays (fun b hb => .inl hb.2) (fun _ _ _ => rfl)) hyb hcn (fun _ _ _ _ _ _ e => by injection e with e; exact e.symm) (fun htx => by have := below_num hbel htx; have := HX.out; omega))
        obtain ⟨X2, HX2⟩ : ∃ X2, Hid (nxt X y = X2) := ⟨_, Lib.hid rfl⟩
        rw [HX2.out] at SP
        obtain ⟨M2, HM2⟩ : ∃ M2, Hid ((vs ++ (V ++ [T1])).length = M2) := ⟨_, Lib.hid rfl⟩
        obtain ⟨KK, HKK⟩ : ∃ KK, Hid (K ++ [y] = KK) := ⟨_, Lib.hid rfl⟩
        rw [HKK.out] at SP HU2
        obtain ⟨yb, yn, ys⟩ := y
        unfold kyV at FKy SP
        have FKH := Lib.hid FKy
        simp only at p0 p1 p2
        clear FKy hky hvs ht hyb hkb hnew hbel hm hP hcn HST
        go_upto_region 5 with fail
        go_cut [23] (fun v wx => v = .bool true ∧ Below wr.heap.size wr wx)
        case first =>
          go_region_with ((go_at_call 58; refine (FKH.out _ (bs HB.out ((Below.refl wr.heap.size wr).drew))).mono ?_; rintro e w1 ⟨rfl, hb1⟩; have HB1 := Lib.hid (bs ((Below.refl wr.heap.size wr).drew) hb1); clear hb1))
          all_goals
            go_wp2_with (fail)
            go_meet
            exact ⟨rfl, HB1.out⟩
        case rest =>
          obtain ⟨rfl, hbc⟩ := hcut
          have HBC := Lib.hid hbc
          have kp : ∀ (p : Addr) (u : Value), wr.cell? p = some u → wc.cell? p = some u := fun p u h => cell_stays (fun hlt => hbc.block _ hlt) h
          have q0 := kp _ _ p0; have q1 := kp _ _ p1; have q2 := kp _ _ p2; have q3 := kp _ _ p3; have q4 := kp _ _ p4; have q5 := kp _ _ p5; have q6 := kp _ _ p6; have q7 := kp _ _ p7
          obtain ⟨r1, f1⟩ := rowc (carry hbc E1.out)
          have E3c := Lib.hid (carry hbc E3.out)
          obtain ⟨r3, f3⟩ := rowc E3c.out
          have g4 := r1 4
          have g30 := r3 0; have g31 := r3 1; have g32 := r3 2; have g33 := r3 3; have g34 := r3 4
          simp at g4 g30 g31 g32 g33 g34
          clear hbc kp p0 p1 p2 p3 p4 p5 p6 p7 FKH r1
          go_upto_region 6 with fail
          -- held region
          refine wp_region_held_drew (S := (fun w' => w'.cell? ⟨w.heap.size + 1, 4, none⟩ = some (.slice (some a) L' c') ∧ w'.cell? (a.add (j * 8)) = some (.bool yb) ∧ w'.cell? ⟨(a.add (j * 8)).block, (a.add (j * 8)).off + 1, none⟩ = some (.int .i64 yn) ∧ w'.cell? ⟨(a.add (j * 8)).block, (a.add (j * 8)).off + 2, none⟩ = some (.string ys) ∧ w'.cell? ⟨(a.add (j * 8)).block, (a.add (j * 8)).off + 3, none⟩ = some (.int .i64 k1) ∧ w'.cell? ⟨(a.add (j * 8)).block, (a.add (j * 8)).off + 4, none⟩ = some (.int .i64 n1) ∧ w'.cell? ⟨(a.add (j * 8)).block, (a.add (j * 8)).off + 5, none⟩ = some (.string s1) ∧ w'.cell? ⟨(a.add (j * 8)).block, (a.add (j * 8)).off + 6, none⟩ = some (.int .i64 x1) ∧ w'.cell? ⟨(a.add (j * 8)).block, (a.add (j * 8)).off + 7, none⟩ = some ((.slice A1' L1 c1)))) (by kernel_rfl) ?_ (fun hHeld => ?_)
          · (try dsimp only) <;> go_keep
          refine wpAnyH_take (i := 1) (v := ?_) rfl (by kernel_rfl) (by kernel_rfl) (by kernel_rfl) (fun _ _ _ h => h) (Or.inl ⟨by kernel_rfl, ?_⟩) (by assumption) ?_
          rotate_left
          · (intro w hSw; (try dsimp only at hSw); go_split_ands; go_simp; try (with_reducible rfl))
          try simp only [Act.put, List.setIfInBounds_toArray, List.set_cons_zero, List.set_cons_succ, List.getElem_toArray, List.getElem_cons_zero, List.getElem_cons_succ]
          refine wpAnyH_take (i := 2) (v := ?_) rfl (by kernel_rfl) (by kernel_rfl) (by kernel_rfl) (fun _ _ _ h => h) (Or.inl ⟨by kernel_rfl, ?_⟩) (by assumption) ?_
          rotate_left
          · (intro w hSw; (try dsimp only at hSw); go_split_ands; go_simp; try (with_reducible rfl))
          try simp only [Act.put, List.setIfInBounds_toArray, List.set_cons_zero, List.set_cons_succ, List.getElem_toArray, List.getElem_cons_zero, List.getElem_cons_succ]
          refine wpAnyH_take (i := 3) (v := ?_) rfl (by kernel_rfl) (by kernel_rfl) (by kernel_rfl) (fun _ _ _ h => h) (Or.inl ⟨by kernel_rfl, ?_⟩) (by assumption) ?_
          rotate_left
          · (intro w hSw; (try dsimp only at hSw); go_split_ands; go_simp; try (with_reducible rfl))
          try simp only [Act.put, List.setIfInBounds_toArray, List.set_cons_zero, List.set_cons_succ, List.getElem_toArray, List.getElem_cons_zero, List.getElem_cons_succ]
          refine wpAnyH_take (i := 4) (v := ?_) rfl (by kernel_rfl) (by kernel_rfl) (by kernel_rfl) (fun _ _ _ h => h) (Or.inl ⟨by kernel_rfl, ?_⟩) (by assumption) ?_
          rotate_left
          · (intro w hSw; (try dsimp only at hSw); go_split_ands; go_simp; try (with_reducible rfl))
          try simp only [Act.put, List.setIfInBounds_toArray, List.set_cons_zero, List.set_cons_succ, List.getElem_toArray, List.getElem_cons_zero, List.getElem_cons_succ]
          refine wpAnyH_take (i := 5) (v := ?_) rfl (by kernel_rfl) (by kernel_rfl) (by kernel_rfl) (fun _ _ _ h => h) (Or.inl ⟨by kernel_rfl, ?_⟩) (by assumption) ?_
          rotate_left
          · (intro w hSw; (try dsimp only at hSw); go_split_ands; go_simp; try (with_reducible rfl))
          try simp only [Act.put, List.setIfInBounds_toArray, List.set_cons_zero, List.set_cons_succ, List.getElem_toArray, List.getElem_cons_zero, List.getElem_cons_succ]
          refine wpAnyH_take (i := 6) (v := ?_) rfl (by kernel_rfl) (by kernel_rfl) (by kernel_rfl) (fun _ _ _ h => h) (Or.inl ⟨by kernel_rfl, ?_⟩) (by assumption) ?_
          rotate_left
          · (intro w hSw; (try dsimp only at hSw); go_split_ands; go_simp; try (with_reducible rfl))
          try simp only [Act.put, List.setIfInBounds_toArray, List.set_cons_zero, List.set_cons_succ, List.getElem_toArray, List.getElem_cons_zero, List.getElem_cons_succ]
          refine wpAnyH_take (i := 7) (v := ?_) rfl (by kernel_rfl) (by kernel_rfl) (by kernel_rfl) (fun _ _ _ h => h) (Or.inl ⟨by kernel_rfl, ?_⟩) (by assumption) ?_
          rotate_left
          · (intro w hSw; (try dsimp only at hSw); go_split_ands; go_simp; try (with_reducible rfl))
          try simp only [Act.put, List.setIfInBounds_toArray, List.set_cons_zero, List.set_cons_succ, List.getElem_toArray, List.getElem_cons_zero, List.getElem_cons_succ]
          refine wpAnyH_take (i := 8) (v := ?_) rfl (by kernel_rfl) (by kernel_rfl) (by kernel_rfl) (fun _ _ _ h => h) (Or.inl ⟨by kernel_rfl, ?_⟩) (by assumption) ?_
          rotate_left
          · (intro w hSw; (try dsimp only at hSw); go_split_ands; go_simp; try (with_reducible rfl))
          try simp only [Act.put, List.setIfInBounds_toArray, List.set_cons_zero, List.set_cons_succ, List.getElem_toArray, List.getElem_cons_zero, List.getElem_cons_succ]
          refine wpAnyH_take (i := 9) (v := ?_) rfl (by kernel_rfl) (by kernel_rfl) (by kernel_rfl) (fun _ _ _ h => h) (Or.inl ⟨by kernel_rfl, ?_⟩) (by assumption) ?_
          rotate_left
          · (intro w hSw; (try dsimp only at hSw); go_split_ands; go_simp; try (with_reducible rfl))
          try simp only [Act.put, List.setIfInBounds_toArray, List.set_cons_zero, List.set_cons_succ, List.getElem_toArray, List.getElem_cons_zero, List.getElem_cons_succ]
          refine wpAnyH_take (i := 10) (v := ?_) rfl (by kernel_rfl) (by kernel_rfl) (by kernel_rfl) (fun _ _ _ h => h) (Or.inl ⟨by kernel_rfl, ?_⟩) (by assumption) ?_
          rotate_left
          · (intro w hSw; (try dsimp only at hSw); go_split_ands; go_simp; try (with_reducible rfl))
          try simp only [Act.put, List.setIfInBounds_toArray, List.set_cons_zero, List.set_cons_succ, List.getElem_toArray, List.getElem_cons_zero, List.getElem_cons_succ]
          refine wpAnyH_take (i := 11) (v := ?_) rfl (by kernel_rfl) (by kernel_rfl) (by kernel_rfl) (fun _ _ _ h => h) (Or.inl ⟨by kernel_rfl, ?_⟩) (by assumption) ?_
          rotate_left
          · (intro w hSw; (try dsimp only at hSw); go_split_ands; go_simp; try (with_reducible rfl))
          try simp only [Act.put, List.setIfInBounds_toArray, List.set_cons_zero, List.set_cons_succ, List.getElem_toArray, List.getElem_cons_zero, List.getElem_cons_succ]
          refine wpAnyH_take (i := 12) (v := ?_) rfl (by kernel_rfl) (by kernel_rfl) (by kernel_rfl) (fun _ _ _ h => h) (Or.inl ⟨by kernel_rfl, ?_⟩) (by assumption) ?_
          rotate_left
          · (intro w hSw; (try dsimp only at hSw); go_split_ands; go_simp; try (with_reducible rfl))
          try simp only [Act.put, List.setIfInBounds_toArray, List.set_cons_zero, List.set_cons_succ, List.getElem_toArray, List.getElem_cons_zero, List.getElem_cons_succ]
          refine wpAnyH_ready (rs := [0]) (by kernel_rfl) (by simp) ?_
          refine AllReadyH.cons rfl (fun K hK => ?_) AllReadyH.nil
          go_simp
          refine hK.out _ _ ?_ (fun hHeld => ?_)
          · ((try dsimp only); first | with_reducible exact ⟨g4, q0, q1, q2, q3, q4, q5, q6, q7⟩ | with_reducible exact ⟨m4, m0, m1, m2, m3, mq, m5, m6, m7⟩ | exact ⟨cell_stays (fun _ => OT _ _ _ _ _ _ (show w.heap.size + 1 ≠ w.heap.size + 1 + 1 + 1 by omega)) m4, cell_stays (fun _ => OT _ _ _ _ _ _ hna) m0, cell_stays (fun _ => OT _ _ _ _ _ _ hna) m1, cell_stays (fun _ => OT _ _ _ _ _ _ hna) m2, cell_stays (fun _ => OT _ _ _ _ _ _ hna) m3, cell_stays (fun _ => OT _ _ _ _ _ _ hna) mq, cell_stays (fun _ => OT _ _ _ _ _ _ hna) m5, cell_stays (fun _ => OT _ _ _ _ _ _ hna) m6, cell_stays (fun _ => OT _ _ _ _ _ _ hna) m7⟩ | go_keep)
          clear hK K
          try simp only [Act.put, List.setIfInBounds_toArray, List.set_cons_zero, List.set_cons_succ, List.getElem_toArray, List.getElem_cons_zero, List.getElem_cons_succ]
          refine wpAnyH_ready (rs := [13]) (by kernel_rfl) (by simp) ?_
          refine AllReadyH.cons rfl (fun K hK => ?_) AllReadyH.nil
          go_simp
          go_at_call 48
          refine (SP.out _ (bs HBC.out ((Below.refl wc.heap.size wc).drew))).mono ?_
          rintro e w7 ⟨u, rfl, hu, hb7⟩
          have hbx : Below wc.heap.size wc w7 := bs ((Below.refl wc.heap.size wc).drew) hb7
          have E0x := Lib.hid (carry hbx (carry HBC.out E0.out))
          have E1x := Lib.hid (carry hbx (carry HBC.out E1.out))
          have E2x := Lib.hid (carry hbx (carry HBC.out E2.out))
          have E3x := Lib.hid (carry hbx E3c.out)
          have hlo : w.heap.size + 1 + 1 + 1 < wc.heap.size := (Array.getElem?_eq_some_iff.1 E3c.out).1
          have HUU := Lib.hid (hu.stays (S' := fun b => b < w.heap.size ∨ w.heap.size + 1 + 1 + 1 < b) (fun b hb => by rcases hb with hb | hb; exact hb; exact .inr (Nat.lt_of_lt_of_le hlo hb.1)) (fun _ _ _ => rfl))
          obtain ⟨Au, cu, rfl, -, -⟩ := hu.out
          rw [HM2.out] at HUU ⊢
          have HBX := Lib.hid (bs (bs HB.out HBC.out) hbx)
          have kx : ∀ (p : Addr) (u : Value), wc.cell? p = some u → w7.cell? p = some u := fun p u h => cell_stays (fun hlt => hbx.block _ hlt) h
          have m4 := kx _ _ g4; have m0 := kx _ _ q0; have m1 := kx _ _ q1; have m2 := kx _ _ q2; have m3 := kx _ _ q3; have mq := kx _ _ q4; have m5 := kx _ _ q5; have m6 := kx _ _ q6; have m7 := kx _ _ q7
          have OT : ∀ (b : Nat) (v0 v1 v2 v3 v4 : Value), b ≠ w.heap.size + 1 + 1 + 1 → (((((w7.setCell ⟨w.heap.size + 1 + 1 + 1, 0, none⟩ v0).setCell ⟨w.heap.size + 1 + 1 + 1, 1, none⟩ v1).setCell ⟨w.heap.size + 1 + 1 + 1, 2, none⟩ v2).setCell ⟨w.heap.size + 1 + 1 + 1, 3, none⟩ v3).setCell ⟨w.heap.size + 1 + 1 + 1, 4, none⟩ v4).heap[b]? = w7.heap[b]? := fun b v0 v1 v2 v3 v4 hb => by rw [set_other hb, set_other hb, set_other hb, set_other hb, set_other hb]
          obtain ⟨r3x, f3x⟩ := rowc E3x.out
          clear hu hb7 hbx hlo kx g4 q0 q1 q2 q3 q4 q5 q6 q7 g30 g31 g32 g33 g34
          try go_wp2_with (fail)
          refine hK.out _ _ ?_ (fun hHeld => ?_)
          · ((try dsimp only); first | with_reducible exact ⟨g4, q0, q1, q2, q3, q4, q5, q6, q7⟩ | with_reducible exact ⟨m4, m0, m1, m2, m3, mq, m5, m6, m7⟩ | exact ⟨cell_stays (fun _ => OT _ _ _ _ _ _ (show w.heap.size + 1 ≠ w.heap.size + 1 + 1 + 1 by omega)) m4, cell_stays (fun _ => OT _ _ _ _ _ _ hna) m0, cell_stays (fun _ => OT _ _ _ _ _ _ hna) m1, cell_stays (fun _ => OT _ _ _ _ _ _ hna) m2, cell_stays (fun _ => OT _ _ _ _ _ _ hna) m3, cell_stays (fun _ => OT _ _ _ _ _ _ hna) mq, cell_stays (fun _ => OT _ _ _ _ _ _ hna) m5, cell_stays (fun _ => OT _ _ _ _ _ _ hna) m6, cell_stays (fun _ => OT _ _ _ _ _ _ hna) m7⟩ | go_keep)
          clear hK K
          try simp only [Act.put, List.setIfInBounds_toArray, List.set_cons_zero, List.set_cons_succ, List.getElem_toArray, List.getElem_cons_zero, List.getElem_cons_succ]
          refine wpAnyH_ready (rs := [14]) (by kernel_rfl) (by simp) ?_
          refine AllReadyH.cons rfl (fun K hK => ?_) AllReadyH.nil
          go_simp
          refine hK.out _ _ ?_ (fun hHeld => ?_)
          · ((try dsimp only); first | with_reducible exact ⟨g4, q0, q1, q2, q3, q4, q5, q6, q7⟩ | with_reducible exact ⟨m4, m0, m1, m2, m3, mq, m5, m6, m7⟩ | exact ⟨cell_stays (fun _ => OT _ _ _ _ _ _ (show w.heap.size + 1 ≠ w.heap.size + 1 + 1 + 1 by omega)) m4, cell_stays (fun _ => OT _ _ _ _ _ _ hna) m0, cell_stays (fun _ => OT _ _ _ _ _ _ hna) m1, cell_stays (fun _ => OT _ _ _ _ _ _ hna) m2, cell_stays (fun _ => OT _ _ _ _ _ _ hna) m3, cell_stays (fun _ => OT _ _ _ _ _ _ hna) mq, cell_stays (fun _ => OT _ _ _ _ _ _ hna) m5, cell_stays (fun _ => OT _ _ _ _ _ _ hna) m6, cell_stays (fun _ => OT _ _ _ _ _ _ hna) m7⟩ | go_keep)
          clear hK K
          try simp only [Act.put, List.setIfInBounds_toArray, List.set_cons_zero, List.set_cons_succ, List.getElem_toArray, List.getElem_cons_zero, List.getElem_cons_succ]
          refine wpAnyH_done (by kernel_rfl) ?_ _
          go_wp2_with (fail)
          generalize hwF : (((((w7.setCell ⟨w.heap.size + 1 + 1 + 1, 0, none⟩ (.int .i64 4)).setCell ⟨w.heap.size + 1 + 1 + 1, 1, none⟩ (.int .i64 n)).setCell ⟨w.heap.size + 1 + 1 + 1, 2, none⟩ (.string s)).setCell ⟨w.heap.size + 1 + 1 + 1, 3, none⟩ (.int .i64 X2)).setCell ⟨w.heap.size + 1 + 1 + 1, 4, none⟩ (.slice Au M2 cu)) = wF
          obtain ⟨rF, oF, bF⟩ := fill5 E3x.out hwF
          have E3F : Hid (wF.heap[w.heap.size + 1 + 1 + 1]? = some (.cells #[.int .i64 4, .int .i64 n, .string s, .int .i64 X2, .slice Au M2 cu] IV (0, 0))) := Lib.hid (by
            rw [← hwF]
            have := set_heap (set_heap (set_heap (set_heap (set_heap E3x.out 0 (.int .i64 4)) 1 (.int .i64 n)) 2 (.string s)) 3 (.int .i64 X2)) 4 (.slice Au M2 cu)
            simpa using this)
          have HRF := Lib.hid (And.intro oF bF)
          clear hwF rF oF bF r3x f3x OT
          try clear m4 m0 m1 m2 m3 mq m5 m6 m7
          go_wp2_with (fail)
          go_roundg (L' - j)
          case rel =>
            obtain ⟨oF, bF⟩ := HRF.out
            exact ⟨j + 1, X2, KK, V ++ [T1], Au, M2, cu, by go_num, by omega, by omega, HU2, HM2, Lib.hid (HUU.out.stays (fun _ h => h) (fun b hb _ => oF b (by rcases hb with hb | hb <;> omega))), Lib.hid ((oF _ (by omega)).trans E0x.out), Lib.hid ((oF _ (by omega)).trans E1x.out), Lib.hid ((oF _ (by omega)).trans E2x.out), E3F, bF _ _ (by omega) HBX.out⟩
          case measure => omega
    · obtain rfl : j = L' := by omega
      obtain ⟨eK, eV⟩ := (HL'.out ▸ HU.out : UnR ks ks' vs vs' vs'.length K V).stop
      subst eK eV
      obtain ⟨X2, HX2⟩ : ∃ X, Hid (nums.mx x x' = X) := ⟨_, Lib.hid rfl⟩
      rw [HX2.out] at MX
      obtain ⟨r2, f2⟩ := rowc E2.out
      obtain ⟨r3, f3⟩ := rowc E3.out
      have hkX : Hid (I64 4 ∧ I64 n ∧ I64 X2 ∧ s.size ≤ maxLen) := Lib.hid (by
        have h := HK.out
        have hx := HX.out
        refine ⟨h.1, h.2.1, ?_, h.2.2.2⟩
        rw [← HX2.out]
        have h3 := h.2.2.1
        unfold nums.mx I64 at *
        split <;> omega)
      go_wp2_with (fail)
      refine (MX _).mono ?_
      rintro e w1 ⟨rfl, rfl⟩
      have E2' : (wr.setCell ⟨w.heap.size + 1 + 1 + 1, 3, none⟩ (.int .i64 X2)).heap[w.heap.size + 1 + 1]? = some (.cells #[.int .i64 0, .int .i64 0, .string ⟨#[]⟩, .int .i64 0, .slice none 0 0] IV (0, 0)) := by rw [set_other (by omega)]; exact E2.out
      have E3' : (wr.setCell ⟨w.heap.size + 1 + 1 + 1, 3, none⟩ (.int .i64 X2)).heap[w.heap.size + 1 + 1 + 1]? = some (.cells #[.int .i64 4, .int .i64 n, .string s, .int .i64 X2, .slice Ao M co] IV (0, 0)) := set_heap E3.out 3 _
      obtain ⟨r3', f3'⟩ := rowc E3'
      obtain ⟨r2', f2'⟩ := rowc E2'
      have HE2 := Lib.hid E2'
      clear E2' E3'
      go_wp2_with (fail)
      generalize hwF : ((((((wr.setCell ⟨w.heap.size + 1 + 1 + 1, 3, none⟩ (.int .i64 X2)).setCell ⟨w.heap.size + 1 + 1, 0, none⟩ (.int .i64 4)).setCell ⟨w.heap.size + 1 + 1, 1, none⟩ (.int .i64 n)).setCell ⟨w.heap.size + 1 + 1, 2, none⟩ (.string s)).setCell ⟨w.heap.size + 1 + 1, 3, none⟩ (.int .i64 X2)).setCell ⟨w.heap.size + 1 + 1, 4, none⟩ (.slice Ao M co)) = wF
      obtain ⟨rF, oF, bF⟩ := fill5 HE2.out hwF
      refine bodyPost_ret (v := vV 4 n s X2 Ao M co) ?_ rfl ?_
      · simp [results, Tryd.results41, go_sem, rF]
      · obtain ⟨A9, c9, e9, -, hin9⟩ := HO.out.out
        rw [HM.out] at e9
        obtain ⟨rfl, rfl⟩ : Ao = A9 ∧ co = c9 := by simpa [vV] using e9
        have hcp := HO.out.cap
        have h9 := TIn.of co hkX.out (hin9.stays (w' := wF) (S' := fun _ => True) (fun _ _ => trivial) (fun b hb _ => (oF b (by rcases hb with hb | hb <;> omega)).trans (set_other (by rcases hb with hb | hb <;> omega)))) (by rw [HM.out]; exact hcp)
        rw [HM.out] at h9
        exact ⟨_, rfl, by rw [HX2.out]; exact h9, bF _ _ (by omega) (HB.out.setCell (show w.heap.size ≤ w.heap.size + 1 + 1 + 1 by omega) _)⟩

end Go.Proofs.YteoilhbidnnneaaDoor.tree

