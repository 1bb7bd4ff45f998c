/-
  How the model compares two values.
  Conditions: the values hold at most 10^9 items and letters.
-/
import Derived.Test.YteoilhbidnnneaaGreatDoorBB5
import Derived.Test.YteoilhbidnnneaaGreatDoorBB1
import Derived.Test.YteoilhbidnnneaaGreatDoorBB3
import Derived.Deep.DeepCutAuto
import Derived.Deep.RegionWith
import Derived.Deep.RegionHeld3
import Derived.Deep.CutBlock
import Derived.BigQuiet
import Derived.Deep.QuietTactic
namespace Go.Proofs.YteoilhbidnnneaaGreatDoor.tree
open Go.ChangeShapes Go.WideShapes Go.ChangeAt Go.RowKit ers
set_option linter.unusedVariables false

theorem cell_eq {w w' : World} {a : Addr} (h : w'.heap[a.block]? = w.heap[a.block]?) : w'.cell? a = w.cell? a := by unfold World.cell?; rw [h]
theorem less_cb : ∀ (a b : List UInt8), Op.bytesLess a b = decide (Lib.compareBytes a b = -1) ∧ (a == b) = decide (Lib.compareBytes a b = 0) ∧ (Lib.compareBytes a b = -1 ∨ Lib.compareBytes a b = 0 ∨ Lib.compareBytes a b = 1)
  | [], [] => by simp [Op.bytesLess, Lib.compareBytes]
  | [], _ :: _ => by simp [Op.bytesLess, Lib.compareBytes]
  | _ :: _, [] => by simp [Op.bytesLess, Lib.compareBytes]
  | a :: r, b :: r' => by
    obtain ⟨h1, h2, h3⟩ := less_cb r r'
    simp only [Op.bytesLess, Lib.compareBytes]
    by_cases hlt : a < b
    · have : ¬ a = b := fun e => UInt8.lt_irrefl _ (e ▸ hlt)
      simp [hlt, this]
    · by_cases hgt : b < a
      · have : ¬ a = b := fun e => UInt8.lt_irrefl _ (e ▸ hgt)
        simp [hlt, hgt, this]
      · have : a = b := UInt8.le_antisymm (UInt8.not_lt.1 hgt) (UInt8.not_lt.1 hlt)
        subst this
        simp only [hlt, if_false]
        refine ⟨by simp [h1], ?_, h3⟩
        rw [← h2]
        simp
theorem l9Bytes (a b : ByteArray) (w : World) : Calls Tryz.prog 86 #[.string a, .string b] w (GivesQ w (.int .i64 (bys a b))) := by
  obtain ⟨h1, h2, h3⟩ := less_cb a.data.toList b.data.toList
  rw [← ByteArray.toList_eq, ← ByteArray.toList_eq] at h1 h2 h3
  obtain ⟨q, HQ⟩ : ∃ q, Hid (bys a b = q) := ⟨_, Lib.hid rfl⟩
  have e : Lib.compareBytes a.toList b.toList = q := by rw [← HQ.out]; unfold bys; rw [ByteArray.toList_eq, ByteArray.toList_eq]
  rw [e] at h1 h2 h3
  rw [HQ.out]
  clear e HQ
  rcases h3 with rfl | rfl | rfl
  · have h1' : Op.bytesLess a.toList b.toList = true := h1
    have h2' : (a.toList == b.toList) = false := h2
    clear h1 h2
    go_enter Tryz.func86, Tryz.ntmps86
    go_wp2
    go_ret
    exact ⟨rfl, Below.refl _ _⟩
  · have h1' : Op.bytesLess a.toList b.toList = false := h1
    have h2' : (a.toList == b.toList) = true := h2
    clear h1 h2
    go_enter Tryz.func86, Tryz.ntmps86
    go_wp2
    go_ret
    exact ⟨rfl, Below.refl _ _⟩
  · have h1' : Op.bytesLess a.toList b.toList = false := h1
    have h2' : (a.toList == b.toList) = false := h2
    clear h1 h2
    go_enter Tryz.func86, Tryz.ntmps86
    go_wp2
    go_ret
    exact ⟨rfl, Below.refl _ _⟩
theorem l9Order (a b : Int) (w : World) : Calls Tryz.prog 87 #[.int .i64 a, .int .i64 b] w (GivesQ w (.int .i64 (Lib.compareInt a b))) := by
  unfold Lib.compareInt
  by_cases h1 : a < b
  · rw [if_pos h1]
    go_enter Tryz.func87, Tryz.ntmps87
    go_wp2
    go_ret
    exact ⟨rfl, Below.refl _ _⟩
  · rw [if_neg h1]
    by_cases h2 : a > b
    · rw [if_pos h2]
      go_enter Tryz.func87, Tryz.ntmps87
      go_wp2
      go_ret
      exact ⟨rfl, Below.refl _ _⟩
    · rw [if_neg h2]
      go_enter Tryz.func87, Tryz.ntmps87
      go_wp2
      go_ret
      exact ⟨rfl, Below.refl _ _⟩
theorem l9Bit (t : Tr) (v : Value) (w : World) (S : Nat → Prop) (h : TIn w S t v) : Calls Tryz.prog 88 #[v] w (GivesQ w (.int .i64 (tr01 t))) := by
  have TB := fun w' (hb : Below w.heap.size w w') => toBool_s t v w' S (h.below' hb)
  obtain ⟨k, n, s, x, A, L, c, rfl⟩ : ∃ k n s x A L c, v = vV k n s x A L c := by
    cases h with
    | mk k n s x ks vs A cap C => exact ⟨k, n, s, x, A, _, cap, rfl⟩
  unfold tr01
  obtain ⟨b, HB⟩ : ∃ b, Hid (tb t = b) := ⟨_, Lib.hid rfl⟩
  rw [HB.out] at TB ⊢
  have HTB := Lib.hid TB
  clear h TB
  cases b
  all_goals
    go_enter Tryz.func88, Tryz.ntmps88
    go_wp2_with (fail)
    refine (HTB.out _ (b1 w _)).mono ?_
    rintro e w1 ⟨rfl, hb1⟩
    have HB1 := Lib.hid (bs (b1 w _) hb1)
    clear hb1
    go_wp2_with (fail)
    go_ret
    exact ⟨rfl, HB1.out⟩
theorem in_9 (n l h : Int) (b : Bool) (hb : (decide (l ≤ n) && decide (n ≤ h)) = b) (w : World) : Calls Tryz.prog 46 #[.int .i64 n, .int .i64 l, .int .i64 h] w fun e w' => e = .returned (.bool b) ∧ w = w' := by
  have := nums.l1In n l h w
  unfold nums.inr at this
  rwa [hb] at this

theorem getL_getT {n x : Int} {s : ByteArray} {ks : List Ky} {vs : List Tr} (y : Ky) : getT (.mk 4 n s x ks vs) y = getL ks vs y := by
  show (if posV (.mk 4 n s x ks vs) y = -1 then none else vs[(posV (.mk 4 n s x ks vs) y).toNat]?) = _
  rw [posV_four]
  rfl

/-- The model's answer in a box. -/
def CutG (w1 : World) (bb : Bool) (k n : Int) (s : ByteArray) (x : Int) (L : Nat) (T : Tr) (p f : Value) (wx : World) : Prop :=
  ∃ B A c, p = .pointer (some ⟨B, 0, none⟩) ∧ f = .bool bb ∧ Below w1.heap.size w1 wx ∧ w1.heap.size ≤ B ∧ wx.heap[B]? = some (.cells #[.int .i64 k, .int .i64 n, .string s, .int .i64 x, .slice A L c] IV (0, 0)) ∧ TIn wx (fun b => b ≠ B) T (vV k n s x A L c)

def CmS (t : Tr) : Prop := ∀ (t' : Tr) (w : World) (S S' : Nat → Prop) (v v' : Value), TIn w S t v → TIn w S' t' v' → tot t ≤ 1000000000 → tot t' ≤ 1000000000 → Calls Tryz.prog 45 #[v, v'] w (GivesQ w (.int .i64 (cmpT t t')))

theorem cmpL_drop {ks : List Ky} {vs : List Tr} {ks' : List Ky} {vs' : List Tr} {j : Nat} {y : Ky} {t : Tr} (h1 : ks[j]? = some y) (h2 : vs[j]? = some t) : cmpL (ks.drop j) (vs.drop j) ks' vs' = match getL ks' vs' y with
    | none => 2
    | some u => thn (cmpT t u) (cmpL (ks.drop (j + 1)) (vs.drop (j + 1)) ks' vs') := by
  obtain ⟨a1, rfl⟩ := List.getElem?_eq_some_iff.1 h1
  obtain ⟨a2, rfl⟩ := List.getElem?_eq_some_iff.1 h2
  rw [List.drop_eq_getElem_cons a1, List.drop_eq_getElem_cons a2, cmpL_cons]
  rfl
theorem tots_item9 : ∀ {ks : List Ky} {vs : List Tr} {j : Nat} {y : Ky} {t : Tr}, ks[j]? = some y → vs[j]? = some t → y.str.size + tot t ≤ tots ks vs
  | [], _, _, _, _, h, _ => by simp at h
  | _ :: _, [], _, _, _, _, h => by simp at h
  | z :: ks, u :: vs, 0, y, t, h, h' => by
    simp at h h'
    subst h h'
    rw [tots]
    omega
  | z :: ks, u :: vs, j + 1, y, t, h, h' => by
    have := tots_item9 (ks := ks) (vs := vs) (j := j) (by simpa using h) (by simpa using h')
    rw [tots]
    omega
theorem getL_tot {ks : List Ky} {vs : List Tr} {y : Ky} {u : Tr} (hl : ks.length = vs.length) (h : getL ks vs y = some u) : tot u ≤ tots ks vs := by
  unfold getL at h
  split at h
  · cases h
  · have hv := (List.getElem?_eq_some_iff.1 h).1
    exact Nat.le_trans (Nat.le_add_left _ _) (tots_item9 (List.getElem?_eq_getElem (by omega : (pos ks y 0).toNat < ks.length)) h)

theorem cmpL_some {ks : List Ky} {vs : List Tr} {ks' : List Ky} {vs' : List Tr} {j : Nat} {y : Ky} {t u : Tr} (h1 : ks[j]? = some y) (h2 : vs[j]? = some t) (hu : getL ks' vs' y = some u) : cmpL (ks.drop j) (vs.drop j) ks' vs' = thn (cmpT t u) (cmpL (ks.drop (j + 1)) (vs.drop (j + 1)) ks' vs') := by rw [cmpL_drop h1 h2, hu]
theorem cmpL_none {ks : List Ky} {vs : List Tr} {ks' : List Ky} {vs' : List Tr} {j : Nat} {y : Ky} {t : Tr} (h1 : ks[j]? = some y) (h2 : vs[j]? = some t) (hu : getL ks' vs' y = none) : cmpL (ks.drop j) (vs.drop j) ks' vs' = 2 := by rw [cmpL_drop h1 h2, hu]
theorem get_of {n x : Int} {s : ByteArray} {ks : List Ky} {vs : List Tr} {y : Ky} {b : Bool} {r : Tr} (h1 : getB (.mk 4 n s x ks vs) y = b) (h2 : getR (.mk 4 n s x ks vs) y = r) : (b = false → getL ks vs y = none) ∧ (b = true → getL ks vs y = some r) := by
  unfold getB at h1
  unfold getR at h2
  rw [getL_getT] at h1 h2
  cases hq : getL ks vs y with
  | none => rw [hq] at h1; subst h1; exact ⟨fun _ => rfl, fun h => Bool.noConfusion h⟩
  | some u => rw [hq] at h1 h2; subst h1; subst h2; exact ⟨fun h => Bool.noConfusion h, fun _ => rfl⟩

set_option maxHeartbeats 4000000 in
set_option maxRecDepth 100000 in
theorem l9Arrays (ks : List Ky) (vs : List Tr) (ih : ∀ t ∈ vs, CmS t) (n : Int) (s : ByteArray) (x : Int) (A : Option Addr) (c : Nat) (n' : Int) (s' : ByteArray) (x' : Int) (ks' : List Ky) (vs' : List Tr) (A' : Option Addr) (c' : Nat) (w : World) (S S' : Nat → Prop)
    (h : TIn w S (.mk 4 n s x ks vs) (vV 4 n s x A vs.length c)) (h' : TIn w S' (.mk 4 n' s' x' ks' vs') (vV 4 n' s' x' A' vs'.length c')) (hT : tots ks vs ≤ 1000000000) (hT' : tots ks' vs' ≤ 1000000000) :
    Calls Tryz.prog 89 #[vV 4 n s x A vs.length c, vV 4 n' s' x' A' vs'.length c'] w (GivesQ w (.int .i64 (if Lib.compareInt vs.length vs'.length = 0 then cmpL ks vs ks' vs' else Lib.compareInt vs.length vs'.length))) := by
  obtain ⟨_, _, e1, -, hin⟩ := h.out
  obtain ⟨rfl, rfl⟩ : A = _ ∧ c = _ := by simpa [vV] using e1
  obtain ⟨_, _, e2, -, hin'⟩ := h'.out
  obtain ⟨rfl, rfl⟩ : A' = _ ∧ c' = _ := by simpa [vV] using e2
  clear e1 e2
  obtain ⟨L, HL⟩ : ∃ L, Hid (vs.length = L) := ⟨_, Lib.hid rfl⟩
  obtain ⟨L', HL'⟩ : ∃ L, Hid (vs'.length = L) := ⟨_, Lib.hid rfl⟩
  have hm : L ≤ maxLen := by rw [← HL.out]; exact hin.2.1
  have hm' : L' ≤ maxLen := by rw [← HL'.out]; exact hin'.2.1
  unfold maxLen at hm hm'
  have HKL' : Hid (ks'.length = vs'.length) := Lib.hid hin'.1
  have HH := Lib.hid h
  have HH' := Lib.hid h'
  have HIN := Lib.hid hin
  have HIN' := Lib.hid hin'
  have HT := Lib.hid hT
  have HT' := Lib.hid hT'
  have IH := Lib.hid ih
  rw [HL.out] at HH ⊢
  rw [HL'.out] at HH' ⊢
  clear h h' hin hin' hT hT' ih
  by_cases hne : L = L'
  · subst hne
    have hci : Lib.compareInt (L : Int) (L : Int) = 0 := by unfold Lib.compareInt; rw [if_neg (by omega), if_neg (by omega)]
    rw [hci, if_pos rfl]
    obtain ⟨W, HW⟩ : ∃ W, Hid (cmpL ks vs ks' vs' = W) := ⟨_, Lib.hid rfl⟩
    rw [HW.out]
    clear hci
    go_enter Tryz.func89, Tryz.ntmps89
    go_wp2_with (fail)
    go_loopg [5] (L + 1) (fun gk i wr => ∃ j : Nat, i = .int .i64 j ∧ gk + j = L + 1 ∧ j ≤ L ∧ Hid (cmpL (ks.drop j) (vs.drop j) ks' vs' = W) ∧
      Hid (wr.heap[w.heap.size]? = some (.cells #[.int .i64 4, .int .i64 n, .string s, .int .i64 x, .slice A L c] IV (0, 0))) ∧ Hid (wr.heap[w.heap.size + 1]? = some (.cells #[.int .i64 4, .int .i64 n', .string s', .int .i64 x', .slice A' L c'] IV (0, 0))) ∧ Below w.heap.size w wr)
    case atStart => exact ⟨0, rfl, by omega, by omega, Lib.hid HW.out, Lib.hid (heap_alloc2_old w _ _), Lib.hid (heap_alloc2_new w _ _), b2 _ _ _⟩
    case round =>
      obtain ⟨j, rfl, hgj, hjL, HQ, HE, HE', hb⟩ := hrel
      have HB := Lib.hid hb
      clear hb
      obtain ⟨r0, -⟩ := rowc HE.out
      obtain ⟨r1, -⟩ := rowc HE'.out
      by_cases hlt : j < L
      · obtain ⟨a, y, k1, n1, s1, x1, ks1, vs1, A1, c1, rfl, hS, hky, hvs, ht, hyb, hkb, hin1, hcell⟩ := (HIN.out.below HB.out).item (i := j) (by rw [HL.out]; exact hlt)
        have HKY := Lib.hid hky
        have htot : tot (.mk k1 n1 s1 x1 ks1 vs1) ≤ 1000000000 := by
          have := tots_item9 hky hvs
          have := HT.out
          omega
        have HVS := Lib.hid hvs
        have HTI := Lib.hid ht
        have HTOT := Lib.hid htot
        obtain ⟨L1, HL1⟩ : ∃ L1, Hid (vs1.length = L1) := ⟨_, Lib.hid rfl⟩
        rw [HL1.out] at hcell HTI
        have L6 : Hid (∀ w', Below w.heap.size w w' → Calls Tryz.prog 122 #[vV 4 n' s' x' A' L c', kyV y] w' (OutT w' (getR (.mk 4 n' s' x' ks' vs') y) (getB (.mk 4 n' s' x' ks' vs') y) (fun b => b < w.heap.size))) := Lib.hid (fun w' hb => l6Get_s _ _ y w' (fun b => b < w.heap.size) (HH'.out.lt'.below' hb))
        obtain ⟨K, N, Z, X, RK, RV, hgr⟩ : ∃ K N Z X RK RV, getR (.mk 4 n' s' x' ks' vs') y = .mk K N Z X RK RV := by
          cases hq : getR (.mk 4 n' s' x' ks' vs') y with
          | mk K N Z X RK RV => exact ⟨K, N, Z, X, RK, RV, rfl⟩
        obtain ⟨bb, hgb⟩ : ∃ bb, getB (.mk 4 n' s' x' ks' vs') y = bb := ⟨_, rfl⟩
        rw [hgr, hgb] at L6
        have HGO := Lib.hid (get_of hgb hgr)
        obtain ⟨RL, HRL⟩ : ∃ L, Hid (RV.length = L) := ⟨_, Lib.hid rfl⟩
        obtain ⟨yb, yn, ys⟩ := y
        have NW0 : w.heap.size + 1 < wr.heap.size := (Array.getElem?_eq_some_iff.1 HE'.out).1
        have NW1 : w.heap.size < wr.heap.size := Nat.lt_of_succ_lt NW0
        have NW2 : (a.add (j * 8)).block < wr.heap.size := World.block_lt_of_cell? _ _ hcell.c0
        clear hky hvs ht hyb hkb hin1 hS htot hgr hgb
        obtain ⟨p0, p1, p2, p3, p4, p5, p6, p7⟩ := hcell
        simp only at p0 p1 p2
        have c04 := r0 4
        have c10 := r1 0
        have c11 := r1 1
        have c12 := r1 2
        have c13 := r1 3
        have c14 := r1 4
        simp only [List.getElem?_toArray, List.getElem?_cons_succ, List.getElem?_cons_zero] at c04 c10 c11 c12 c13 c14
        clear r0 r1
        unfold kyV vV at L6
        go_upto_region 6 with fail
        go_cut [6, 7] (fun p f wx => CutG wr bb K N Z X RL (.mk K N Z X RK RV) p f wx)
        case first =>
          refine wp_region_held_drew (S := fun w' => ∀ b, b < wr.heap.size → w'.heap[b]? = wr.heap[b]?) (by kernel_rfl) ?_ (fun hHeld => ?_)
          · exact fun b hb => rfl
          refine wpAnyH_take (i := 0) (v := ?_) rfl (by kernel_rfl) (by kernel_rfl) (by kernel_rfl) (fun _ _ _ h => h) (Or.inl ⟨by kernel_rfl, ?_⟩) (by assumption) ?_
          rotate_left
          · intro w9 hSw
            have hS9 : ∀ b, b < wr.heap.size → w9.heap[b]? = wr.heap[b]? := hSw
            have y0 := (cell_eq (w := wr) (w' := w9) (a := ⟨w.heap.size + 1, 0, none⟩) (hS9 _ NW0)).trans c10
            have y1 := (cell_eq (w := wr) (w' := w9) (a := ⟨w.heap.size + 1, 1, none⟩) (hS9 _ NW0)).trans c11
            have y2 := (cell_eq (w := wr) (w' := w9) (a := ⟨w.heap.size + 1, 2, none⟩) (hS9 _ NW0)).trans c12
            have y3 := (cell_eq (w := wr) (w' := w9) (a := ⟨w.heap.size + 1, 3, none⟩) (hS9 _ NW0)).trans c13
            have y4 := (cell_eq (w := wr) (w' := w9) (a := ⟨w.heap.size + 1, 4, none⟩) (hS9 _ NW0)).trans c14
            go_simp
            try (with_reducible rfl)
          try simp only [Act.put, List.setIfInBounds_toArray, List.set_cons_zero, List.set_cons_succ, List.getElem_toArray, List.getElem_cons_zero]
          refine wpAnyH_take (i := 1) (v := ?_) rfl (by kernel_rfl) (by kernel_rfl) (by kernel_rfl) (fun _ _ _ h => h) (Or.inl ⟨by kernel_rfl, ?_⟩) (by assumption) ?_
          rotate_left
          · intro w9 hSw
            go_simp
            try (with_reducible rfl)
          try simp only [Act.put, List.setIfInBounds_toArray, List.set_cons_zero, List.set_cons_succ, List.getElem_toArray, List.getElem_cons_zero, List.getElem_cons_succ]
          refine wpAnyH_take (i := 2) (v := ?_) rfl (by kernel_rfl) (by kernel_rfl) (by kernel_rfl) (fun _ _ _ h => h) (Or.inl ⟨by kernel_rfl, ?_⟩) (by assumption) ?_
          rotate_left
          · intro w9 hSw
            have hS9 : ∀ b, b < wr.heap.size → w9.heap[b]? = wr.heap[b]? := hSw
            have y4 := (cell_eq (w := wr) (w' := w9) (a := ⟨w.heap.size, 4, none⟩) (hS9 _ NW1)).trans c04
            go_simp
            try (with_reducible rfl)
          try simp only [Act.put, List.setIfInBounds_toArray, List.set_cons_zero, List.set_cons_succ, List.getElem_toArray, List.getElem_cons_zero, List.getElem_cons_succ]
          refine wpAnyH_take (i := 3) (v := ?_) rfl (by kernel_rfl) (by kernel_rfl) (by kernel_rfl) (fun _ _ _ h => h) (Or.inl ⟨by kernel_rfl, ?_⟩) (by assumption) ?_
          rotate_left
          · intro w9 hSw
            go_simp
            try (with_reducible rfl)
          try simp only [Act.put, List.setIfInBounds_toArray, List.set_cons_zero, List.set_cons_succ, List.getElem_toArray, List.getElem_cons_zero, List.getElem_cons_succ]
          refine wpAnyH_take (i := 4) (v := ?_) rfl (by kernel_rfl) (by kernel_rfl) (by kernel_rfl) (fun _ _ _ h => h) (Or.inl ⟨by kernel_rfl, ?_⟩) (by assumption) ?_
          rotate_left
          · intro w9 hSw
            go_simp
            try (with_reducible rfl)
          try simp only [Act.put, List.setIfInBounds_toArray, List.set_cons_zero, List.set_cons_succ, List.getElem_toArray, List.getElem_cons_zero, List.getElem_cons_succ]
          refine wpAnyH_take (i := 5) (v := ?_) rfl (by kernel_rfl) (by kernel_rfl) (by kernel_rfl) (fun _ _ _ h => h) (Or.inl ⟨by kernel_rfl, ?_⟩) (by assumption) ?_
          rotate_left
          · intro w9 hSw
            go_simp
            try (with_reducible rfl)
          try simp only [Act.put, List.setIfInBounds_toArray, List.set_cons_zero, List.set_cons_succ, List.getElem_toArray, List.getElem_cons_zero, List.getElem_cons_succ]
          refine wpAnyH_take (i := 6) (v := ?_) rfl (by kernel_rfl) (by kernel_rfl) (by kernel_rfl) (fun _ _ _ h => h) (Or.inl ⟨by kernel_rfl, ?_⟩) (by assumption) ?_
          rotate_left
          · intro w9 hSw
            have hS9 : ∀ b, b < wr.heap.size → w9.heap[b]? = wr.heap[b]? := hSw
            have y0 := (cell_eq (w := wr) (w' := w9) (a := a.add (j * 8)) (hS9 _ NW2)).trans p0
            have y1 := (cell_eq (w := wr) (w' := w9) (a := ⟨(a.add (j * 8)).block, (a.add (j * 8)).off + 1, none⟩) (hS9 _ NW2)).trans p1
            have y2 := (cell_eq (w := wr) (w' := w9) (a := ⟨(a.add (j * 8)).block, (a.add (j * 8)).off + 2, none⟩) (hS9 _ NW2)).trans p2
            go_simp
            try (with_reducible rfl)
          try simp only [Act.put, List.setIfInBounds_toArray, List.set_cons_zero, List.set_cons_succ, List.getElem_toArray, List.getElem_cons_zero, List.getElem_cons_succ]
          refine wpAnyH_ready (rs := [7, 11]) (by kernel_rfl) (by simp) ?_
          refine AllReadyH.cons rfl (fun K hK => ?_) ?_
          · go_simp
            go_at_call 122
            refine (L6.out _ ?_).mono ?_
            · exact bs HB.out ((Below.refl wr.heap.size wr).drew)
            rintro e w4 ⟨u, rfl, hv, hb⟩
            have HWX := Lib.hid (bs ((Below.refl wr.heap.size wr).drew) hb)
            obtain ⟨Am, cm, rfl, -, -⟩ := hv.out
            have HMM := Lib.hid hv
            rw [HRL.out] at HMM ⊢
            clear hv hb
            try go_wp2_with (fail)
            refine hK.out _ _ ?_ (fun hHeld => ?_)
            · exact fun b hb9 => HWX.out.block b hb9
            clear hK K
            try simp only [Act.put, List.setIfInBounds_toArray, List.set_cons_zero, List.set_cons_succ, List.getElem_toArray, List.getElem_cons_zero, List.getElem_cons_succ]
            refine wpAnyH_take (i := 8) (v := ?_) rfl (by kernel_rfl) (by kernel_rfl) (by kernel_rfl) (fun _ _ _ h => h) (Or.inl ⟨by kernel_rfl, ?_⟩) (by assumption) ?_
            rotate_left
            · intro w9 hSw
              go_simp
              try (with_reducible rfl)
            try simp only [Act.put, List.setIfInBounds_toArray, List.set_cons_zero, List.set_cons_succ, List.getElem_toArray, List.getElem_cons_zero, List.getElem_cons_succ]
            refine wpAnyH_take (i := 9) (v := ?_) rfl (by kernel_rfl) (by kernel_rfl) (by kernel_rfl) (fun _ _ _ h => h) (Or.inl ⟨by kernel_rfl, ?_⟩) (by assumption) ?_
            rotate_left
            · intro w9 hSw
              go_simp
              try (with_reducible rfl)
            try simp only [Act.put, List.setIfInBounds_toArray, List.set_cons_zero, List.set_cons_succ, List.getElem_toArray, List.getElem_cons_zero, List.getElem_cons_succ]
            refine wpAnyH_take (i := 10) (v := ?_) rfl (by kernel_rfl) (by kernel_rfl) (by kernel_rfl) (fun _ _ _ h => h) (Or.inl ⟨by kernel_rfl, ?_⟩) (by assumption) ?_
            rotate_left
            · intro w9 hSw
              go_simp
              try (with_reducible rfl)
            try simp only [Act.put, List.setIfInBounds_toArray, List.set_cons_zero, List.set_cons_succ, List.getElem_toArray, List.getElem_cons_zero, List.getElem_cons_succ]
            refine wpAnyH_ready (rs := [11]) (by kernel_rfl) (by simp) ?_
            refine AllReadyH.cons rfl (fun K hK => ?_) AllReadyH.nil
            go_simp
            refine hK.out _ _ ?_ (fun hHeld => ?_)
            · exact fun b hb9 => ((b1 w4 _).block b (Nat.lt_of_lt_of_le hb9 HWX.out.size)).trans (HWX.out.block b hb9)
            clear hK K
            try simp only [Act.put, List.setIfInBounds_toArray, List.set_cons_zero, List.set_cons_succ, List.getElem_toArray, List.getElem_cons_zero, List.getElem_cons_succ]
            refine wpAnyH_ready (rs := [12]) (by kernel_rfl) (by simp) ?_
            refine AllReadyH.cons rfl (fun K hK => ?_) AllReadyH.nil
            go_simp
            refine hK.out _ _ ?_ (fun hHeld => ?_)
            · exact fun b hb9 => ((b1 w4 _).block b (Nat.lt_of_lt_of_le hb9 HWX.out.size)).trans (HWX.out.block b hb9)
            clear hK K
            try simp only [Act.put, List.setIfInBounds_toArray, List.set_cons_zero, List.set_cons_succ, List.getElem_toArray, List.getElem_cons_zero, List.getElem_cons_succ]
            refine wpAnyH_ready (rs := [13]) (by kernel_rfl) (by simp) ?_
            refine AllReadyH.cons rfl (fun K hK => ?_) AllReadyH.nil
            go_simp
            refine hK.out _ _ ?_ (fun hHeld => ?_)
            · exact fun b hb9 => ((b1 w4 _).block b (Nat.lt_of_lt_of_le hb9 HWX.out.size)).trans (HWX.out.block b hb9)
            clear hK K
            try simp only [Act.put, List.setIfInBounds_toArray, List.set_cons_zero, List.set_cons_succ, List.getElem_toArray, List.getElem_cons_zero, List.getElem_cons_succ]
            refine wpAnyH_done (by kernel_rfl) ?_ _
            go_wp2_with (fail)
            go_meet
            have hwsz := HWX.out.size
            exact ⟨_, Am, cm, rfl, rfl, bs HWX.out (b1 w4 _), hwsz, heap_alloc_new w4 _, (HMM.out.below' (b1 w4 _)).stays (fun b (hb : b < w.heap.size) => by show b ≠ _; omega) (fun _ _ _ => rfl)⟩
          refine AllReadyH.cons rfl (fun K hK => ?_) AllReadyH.nil
          go_simp
          refine hK.out _ _ ?_ (fun hHeld => ?_)
          · exact fun b hb9 => (Below.drew (b1 wr _)).block b hb9
          clear hK K
          try simp only [Act.put, List.setIfInBounds_toArray, List.set_cons_zero, List.set_cons_succ, List.getElem_toArray, List.getElem_cons_zero, List.getElem_cons_succ]
          refine wpAnyH_ready (rs := [7]) (by kernel_rfl) (by simp) ?_
          refine AllReadyH.cons rfl (fun K hK => ?_) AllReadyH.nil
          go_simp
          go_at_call 122
          refine (L6.out _ ?_).mono ?_
          · exact bs HB.out (Below.drew (b1 wr (.cells #[.int .i64 0, .int .i64 0, .string ⟨#[]⟩, .int .i64 0, .slice none 0 0] IV)))
          rintro e w4 ⟨u, rfl, hv, hb⟩
          have HWX := Lib.hid (bs (Below.drew (b1 wr (.cells #[.int .i64 0, .int .i64 0, .string ⟨#[]⟩, .int .i64 0, .slice none 0 0] IV))) hb)
          obtain ⟨Am, cm, rfl, -, -⟩ := hv.out
          have HMM := Lib.hid hv
          rw [HRL.out] at HMM ⊢
          have EZ : Hid (w4.heap[wr.heap.size]? = some (.cells #[.int .i64 0, .int .i64 0, .string ⟨#[]⟩, .int .i64 0, .slice none 0 0] IV (0, 0))) := Lib.hid (carry hb (heap_alloc_new wr (.cells #[.int .i64 0, .int .i64 0, .string ⟨#[]⟩, .int .i64 0, .slice none 0 0] IV)))
          obtain ⟨zr, zf⟩ := rowc EZ.out
          clear hv hb
          try go_wp2_with (fail)
          refine hK.out _ _ ?_ (fun hHeld => ?_)
          · exact fun b hb9 => HWX.out.block b hb9
          clear hK K
          try simp only [Act.put, List.setIfInBounds_toArray, List.set_cons_zero, List.set_cons_succ, List.getElem_toArray, List.getElem_cons_zero, List.getElem_cons_succ]
          refine wpAnyH_take (i := 8) (v := ?_) rfl (by kernel_rfl) (by kernel_rfl) (by kernel_rfl) (fun _ _ _ h => h) (Or.inl ⟨by kernel_rfl, ?_⟩) (by assumption) ?_
          rotate_left
          · intro w9 hSw
            go_simp
            try (with_reducible rfl)
          try simp only [Act.put, List.setIfInBounds_toArray, List.set_cons_zero, List.set_cons_succ, List.getElem_toArray, List.getElem_cons_zero, List.getElem_cons_succ]
          refine wpAnyH_take (i := 9) (v := ?_) rfl (by kernel_rfl) (by kernel_rfl) (by kernel_rfl) (fun _ _ _ h => h) (Or.inl ⟨by kernel_rfl, ?_⟩) (by assumption) ?_
          rotate_left
          · intro w9 hSw
            go_simp
            try (with_reducible rfl)
          try simp only [Act.put, List.setIfInBounds_toArray, List.set_cons_zero, List.set_cons_succ, List.getElem_toArray, List.getElem_cons_zero, List.getElem_cons_succ]
          refine wpAnyH_take (i := 10) (v := ?_) rfl (by kernel_rfl) (by kernel_rfl) (by kernel_rfl) (fun _ _ _ h => h) (Or.inl ⟨by kernel_rfl, ?_⟩) (by assumption) ?_
          rotate_left
          · intro w9 hSw
            go_simp
            try (with_reducible rfl)
          try simp only [Act.put, List.setIfInBounds_toArray, List.set_cons_zero, List.set_cons_succ, List.getElem_toArray, List.getElem_cons_zero, List.getElem_cons_succ]
          refine wpAnyH_ready (rs := [12]) (by kernel_rfl) (by simp) ?_
          refine AllReadyH.cons rfl (fun K hK => ?_) AllReadyH.nil
          go_simp
          refine hK.out _ _ ?_ (fun hHeld => ?_)
          · exact fun b hb9 => (by have hq : b ≠ wr.heap.size := Nat.ne_of_lt hb9; exact (set_other hq).trans ((set_other hq).trans ((set_other hq).trans ((set_other hq).trans ((set_other hq).trans (HWX.out.block b hb9))))))
          clear hK K
          try simp only [Act.put, List.setIfInBounds_toArray, List.set_cons_zero, List.set_cons_succ, List.getElem_toArray, List.getElem_cons_zero, List.getElem_cons_succ]
          refine wpAnyH_ready (rs := [13]) (by kernel_rfl) (by simp) ?_
          refine AllReadyH.cons rfl (fun K hK => ?_) AllReadyH.nil
          go_simp
          refine hK.out _ _ ?_ (fun hHeld => ?_)
          · exact fun b hb9 => (by have hq : b ≠ wr.heap.size := Nat.ne_of_lt hb9; exact (set_other hq).trans ((set_other hq).trans ((set_other hq).trans ((set_other hq).trans ((set_other hq).trans (HWX.out.block b hb9))))))
          clear hK K
          try simp only [Act.put, List.setIfInBounds_toArray, List.set_cons_zero, List.set_cons_succ, List.getElem_toArray, List.getElem_cons_zero, List.getElem_cons_succ]
          refine wpAnyH_done (by kernel_rfl) ?_ _
          go_wp2_with (fail)
          go_meet
          refine ⟨wr.heap.size, Am, cm, rfl, rfl, ?_, Nat.le_refl _, set_heap (set_heap (set_heap (set_heap (set_heap EZ.out 0 _) 1 _) 2 _) 3 _) 4 _, HMM.out.stays (fun b (hb : b < w.heap.size) => by show b ≠ _; omega) (fun b (hb : b < w.heap.size) hl => ?_)⟩
          · have hle := Nat.le_refl wr.heap.size
            exact ((((HWX.out.setCell hle _).setCell hle _).setCell hle _).setCell hle _).setCell hle _
          · have hq : b ≠ wr.heap.size := by omega
            exact (set_other hq).trans ((set_other hq).trans ((set_other hq).trans ((set_other hq).trans (set_other hq))))
        case rest =>
          obtain ⟨BX, Ax, cx, rfl, rfl, hbx, hnx, hXB, hXT⟩ := hcut
          have HBX := Lib.hid (bs HB.out hbx)
          have HXB := Lib.hid hXB
          have HXT := Lib.hid hXT
          have HXE := Lib.hid (carry hbx HE.out)
          have HXE2 := Lib.hid (carry hbx HE'.out)
          have HW9 := Lib.hid hbx
          have y3 := (cell_eq (w := wr) (w' := wc) (a := ⟨(a.add (j * 8)).block, (a.add (j * 8)).off + 3, none⟩) (hbx.block _ NW2)).trans p3
          have y4 := (cell_eq (w := wr) (w' := wc) (a := ⟨(a.add (j * 8)).block, (a.add (j * 8)).off + 4, none⟩) (hbx.block _ NW2)).trans p4
          have y5 := (cell_eq (w := wr) (w' := wc) (a := ⟨(a.add (j * 8)).block, (a.add (j * 8)).off + 5, none⟩) (hbx.block _ NW2)).trans p5
          have y6 := (cell_eq (w := wr) (w' := wc) (a := ⟨(a.add (j * 8)).block, (a.add (j * 8)).off + 6, none⟩) (hbx.block _ NW2)).trans p6
          have y7 := (cell_eq (w := wr) (w' := wc) (a := ⟨(a.add (j * 8)).block, (a.add (j * 8)).off + 7, none⟩) (hbx.block _ NW2)).trans p7
          have x04 := (cell_eq (w := wr) (w' := wc) (a := ⟨w.heap.size, 4, none⟩) (hbx.block _ NW1)).trans c04
          clear hbx hXB hXT p0 p1 p2 p3 p4 p5 p6 p7 c04 c10 c11 c12 c13 c14 L6 hnx
          obtain ⟨xr, -⟩ := rowc HXB.out
          have z0 := xr 0
          have z1 := xr 1
          have z2 := xr 2
          have z3 := xr 3
          have z4 := xr 4
          simp only [List.getElem?_toArray, List.getElem?_cons_succ, List.getElem?_cons_zero] at z0 z1 z2 z3 z4
          clear xr
          cases bb with
          | false =>
            have HWN : Hid (W = 2) := Lib.hid (HQ.out.symm.trans (cmpL_none HKY.out HVS.out (HGO.out.1 rfl)))
            clear y3 y4 y5 y6 y7 z0 z1 z2 z3 z4 x04
            go_wp2_with (fail)
            go_ret
            exact ⟨by rw [HWN.out]; rfl, HBX.out⟩
          | true =>
            have HGS : Hid (getL ks' vs' ⟨yb, yn, ys⟩ = some (.mk K N Z X RK RV)) := Lib.hid (HGO.out.2 rfl)
            have HDS : Hid (thn (cmpT (.mk k1 n1 s1 x1 ks1 vs1) (.mk K N Z X RK RV)) (cmpL (ks.drop (j + 1)) (vs.drop (j + 1)) ks' vs') = W) := Lib.hid ((cmpL_some HKY.out HVS.out HGS.out).symm.trans HQ.out)
            have hu9 : tot (.mk K N Z X RK RV) ≤ 1000000000 := Nat.le_trans (getL_tot HKL'.out HGS.out) HT'.out
            have CV : ∀ w', Below wc.heap.size wc w' → Calls Tryz.prog 45 #[vV k1 n1 s1 x1 A1 L1 c1, vV K N Z X Ax RL cx] w' (GivesQ w' (.int .i64 (cmpT (.mk k1 n1 s1 x1 ks1 vs1) (.mk K N Z X RK RV)))) := fun w' hb => IH.out _ (List.mem_of_getElem? HVS.out) _ w' _ _ _ _ (HTI.out.below' (bs HW9.out hb)) (HXT.out.below' hb) HTOT.out hu9
            obtain ⟨z, HZ⟩ : ∃ z, Hid (cmpT (.mk k1 n1 s1 x1 ks1 vs1) (.mk K N Z X RK RV) = z) := ⟨_, Lib.hid rfl⟩
            rw [HZ.out] at CV HDS
            have HCV := Lib.hid CV
            clear CV hu9 HGO HGS
            by_cases hz : z = 0
            · subst hz
              go_wp2_with (fail)
              go_region_with ((go_at_call 45; refine (HCV.out _ ?_).mono ?_; exact ((Below.refl wc.heap.size wc).drew); rintro e w5 ⟨rfl, hb5⟩; have HB5 := Lib.hid (bs ((Below.refl wc.heap.size wc).drew) hb5); clear hb5))
              all_goals
                go_wp2_with (fail)
                go_roundg (L - j)
                case rel => exact ⟨j + 1, by go_num, by omega, by omega, Lib.hid (by have := HDS.out; rwa [thn_zero] at this), Lib.hid (carry HB5.out HXE.out), Lib.hid (carry HB5.out HXE2.out), bs HBX.out HB5.out⟩
                case measure => omega
            · have HWZ : Hid (W = z) := Lib.hid (by have := HDS.out; rw [thn_not hz] at this; exact this.symm)
              go_wp2_with (fail)
              go_region_with ((go_at_call 45; refine (HCV.out _ ?_).mono ?_; exact ((Below.refl wc.heap.size wc).drew); rintro e w5 ⟨rfl, hb5⟩; have HB5 := Lib.hid (bs ((Below.refl wc.heap.size wc).drew) hb5); clear hb5))
              all_goals
                go_wp2_with (fail)
                go_ret
                exact ⟨by rw [HWZ.out]; rfl, bs HBX.out HB5.out⟩
      · obtain rfl : j = L := by omega
        have HWN : Hid (W = 0) := Lib.hid (by
          have h2 := HQ.out
          rw [show vs.drop j = [] from List.drop_eq_nil_of_le (Nat.le_of_eq HL.out), cmpL_nil] at h2
          exact h2.symm)
        have c04 := r0 4
        simp only [List.getElem?_toArray, List.getElem?_cons_succ, List.getElem?_cons_zero] at c04
        clear r0 r1
        go_wp2_with (fail)
        go_ret
        exact ⟨by rw [HWN.out]; rfl, HB.out⟩
  · have hci : Lib.compareInt (L : Int) (L' : Int) ≠ 0 := by unfold Lib.compareInt; split <;> (try split) <;> omega
    rw [if_neg hci]
    have OR := l9Order (L : Int) (L' : Int)
    obtain ⟨z, HZ⟩ : ∃ z, Hid (Lib.compareInt (L : Int) (L' : Int) = z) := ⟨_, Lib.hid rfl⟩
    rw [HZ.out] at OR ⊢
    have hne2 : ¬ (L : Int) = (L' : Int) := by omega
    clear hci
    go_enter Tryz.func89, Tryz.ntmps89
    go_wp2_with (fail)
    refine (OR _).mono ?_
    rintro e w1 ⟨rfl, hb1⟩
    have HB1 := Lib.hid (bs (b2 w _ _) hb1)
    clear hb1
    go_wp2_with (fail)
    go_ret
    exact ⟨rfl, HB1.out⟩

end Go.Proofs.YteoilhbidnnneaaGreatDoor.tree

