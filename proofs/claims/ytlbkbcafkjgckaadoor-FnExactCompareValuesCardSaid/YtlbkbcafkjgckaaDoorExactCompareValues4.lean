/-
  CompareValues answers as its model at every two values; it leaves its arguments unmodified.
  Conditions: the package variables that the row lists hold what the program's text lays, and the card ties that to the text.
-/
import Derived.Deep.DeepCutAuto
import Derived.Deep.RegionWith
import Derived.Deep.RegionHeld3
import Derived.Deep.CutBlock
import Derived.BigQuiet
import Derived.Deep.QuietTactic
import Derived.Test.YtlbkbcafkjgckaaDoorRows
import Derived.WalkKit
import Derived.ProofKit
import Derived.OpenShut
import Derived.Carry
import Derived.ChangeVars
import Derived.Test.YtlbkbcafkjgckaaDoorCards
import Derived.Test.YtlbkbcafkjgckaaDoorTie
import Derived.LaidMore
import Derived.LaidHandle
import Derived.Stop.Joined
import Derived.SevenTiedAt
import Derived.Stop.LaidErr
import Derived.SizedLaws
import Derived.Test.YtlbkbcafkjgckaaDoorExactCompareValues1
import Derived.Test.YtlbkbcafkjgckaaDoorExactCompareValues2
import Derived.Test.YtlbkbcafkjgckaaDoorExactCompareValues3
/-
  How the model compares two values.
  Conditions: the values hold at most 10^9 items and letters.
-/
namespace Go.Proofs.YtlbkbcafkjgckaaDoor.tree
open Go.ChangeShapes Go.WideShapes Go.ChangeAt Go.RowKit ers
set_option linter.unusedVariables false

theorem cell_eq {w w' : World} {a : Addr} (h : w'.heap[a.block]? = w.heap[a.block]?) : w'.cell? a = w.cell? a := by unfold World.cell?; rw [h]
theorem less_cb : ∀ (a b : List UInt8), Op.bytesLess a b = decide (Lib.compareBytes a b = -1) ∧ (a == b) = decide (Lib.compareBytes a b = 0) ∧ (Lib.compareBytes a b = -1 ∨ Lib.compareBytes a b = 0 ∨ Lib.compareBytes a b = 1)
  | [], [] => by simp [Op.bytesLess, Lib.compareBytes]
  | [], _ :: _ => by simp [Op.bytesLess, Lib.compareBytes]
  | _ :: _, [] => by simp [Op.bytesLess, Lib.compareBytes]
  | a :: r, b :: r' => by
    obtain ⟨h1, h2, h3⟩ := less_cb r r'
    simp only [Op.bytesLess, Lib.compareBytes]
    by_cases hlt : a < b
    · have : ¬ a = b := fun e => UInt8.lt_irrefl _ (e ▸ hlt)
      simp [hlt, this]
    · by_cases hgt : b < a
      · have : ¬ a = b := fun e => UInt8.lt_irrefl _ (e ▸ hgt)
        simp [hlt, hgt, this]
      · have : a = b := UInt8.le_antisymm (UInt8.not_lt.1 hgt) (UInt8.not_lt.1 hlt)
        subst this
        simp only [hlt, if_false]
        refine ⟨by simp [h1], ?_, h3⟩
        rw [← h2]
        simp
theorem l9Bytes (a b : ByteArray) (w : World) : Calls Tryd.prog 93 #[.string a, .string b] w (GivesQ w (.int .i64 (bys a b))) := by
  obtain ⟨h1, h2, h3⟩ := less_cb a.data.toList b.data.toList
  rw [← ByteArray.toList_eq, ← ByteArray.toList_eq] at h1 h2 h3
  obtain ⟨q, HQ⟩ : ∃ q, Hid (bys a b = q) := ⟨_, Lib.hid rfl⟩
  have e : Lib.compareBytes a.toList b.toList = q := by rw [← HQ.out]; unfold bys; rw [ByteArray.toList_eq, ByteArray.toList_eq]
  rw [e] at h1 h2 h3
  rw [HQ.out]
  clear e HQ
  rcases h3 with rfl | rfl | rfl
  · have h1' : Op.bytesLess a.toList b.toList = true := h1
    have h2' : (a.toList == b.toList) = false := h2
    clear h1 h2
    go_enter Tryd.func93, Tryd.ntmps93
    go_wp2
    go_ret
    exact ⟨rfl, Below.refl _ _⟩
  · have h1' : Op.bytesLess a.toList b.toList = false := h1
    have h2' : (a.toList == b.toList) = true := h2
    clear h1 h2
    go_enter Tryd.func93, Tryd.ntmps93
    go_wp2
    go_ret
    exact ⟨rfl, Below.refl _ _⟩
  · have h1' : Op.bytesLess a.toList b.toList = false := h1
    have h2' : (a.toList == b.toList) = false := h2
    clear h1 h2
    go_enter Tryd.func93, Tryd.ntmps93
    go_wp2
    go_ret
    exact ⟨rfl, Below.refl _ _⟩
theorem l9Order (a b : Int) (w : World) : Calls Tryd.prog 94 #[.int .i64 a, .int .i64 b] w (GivesQ w (.int .i64 (Lib.compareInt a b))) := by
  unfold Lib.compareInt
  by_cases h1 : a < b
  · rw [if_pos h1]
    go_enter Tryd.func94, Tryd.ntmps94
    go_wp2
    go_ret
    exact ⟨rfl, Below.refl _ _⟩
  · rw [if_neg h1]
    by_cases h2 : a > b
    · rw [if_pos h2]
      go_enter Tryd.func94, Tryd.ntmps94
      go_wp2
      go_ret
      exact ⟨rfl, Below.refl _ _⟩
    · rw [if_neg h2]
      go_enter Tryd.func94, Tryd.ntmps94
      go_wp2
      go_ret
      exact ⟨rfl, Below.refl _ _⟩
theorem l9Bit (t : Tr) (v : Value) (w : World) (S : Nat → Prop) (h : TIn w S t v) : Calls Tryd.prog 95 #[v] w (GivesQ w (.int .i64 (tr01 t))) := by
  have TB := fun w' (hb : Below w.heap.size w w') => toBool_s t v w' S (h.below' hb)
  obtain ⟨k, n, s, x, A, L, c, rfl⟩ : ∃ k n s x A L c, v = vV k n s x A L c := by
    cases h with
    | mk k n s x ks vs A cap C => exact ⟨k, n, s, x, A, _, cap, rfl⟩
  unfold tr01
  obtain ⟨b, HB⟩ : ∃ b, Hid (tb t = b) := ⟨_, Lib.hid rfl⟩
  rw [HB.out] at TB ⊢
  have HTB := Lib.hid TB
  clear h TB
  cases b
  all_goals
    go_enter Tryd.func95, Tryd.ntmps95
    go_wp2_with (fail)
    refine (HTB.out _ (b1 w _)).mono ?_
    rintro e w1 ⟨rfl, hb1⟩
    have HB1 := Lib.hid (bs (b1 w _) hb1)
    clear hb1
    go_wp2_with (fail)
    go_ret
    exact ⟨rfl, HB1.out⟩
theorem in_9 (n l h : Int) (b : Bool) (hb : (decide (l ≤ n) && decide (n ≤ h)) = b) (w : World) : Calls Tryd.prog 61 #[.int .i64 n, .int .i64 l, .int .i64 h] w fun e w' => e = .returned (.bool b) ∧ w = w' := by
  have := nums.l1In n l h w
  unfold nums.inr at this
  rwa [hb] at this

theorem getL_getT {n x : Int} {s : ByteArray} {ks : List Ky} {vs : List Tr} (y : Ky) : getT (.mk 4 n s x ks vs) y = getL ks vs y := by
  show (if posV (.mk 4 n s x ks vs) y = -1 then none else vs[(posV (.mk 4 n s x ks vs) y).toNat]?) = _
  rw [posV_four]
  rfl

/-- The model's answer in a box. -/
def CutG (w1 : World) (bb : Bool) (k n : Int) (s : ByteArray) (x : Int) (L : Nat) (T : Tr) (p f : Value) (wx : World) : Prop :=
  ∃ B A c, p = .pointer (some ⟨B, 0, none⟩) ∧ f = .bool bb ∧ Below w1.heap.size w1 wx ∧ w1.heap.size ≤ B ∧ wx.heap[B]? = some (.cells #[.int .i64 k, .int .i64 n, .string s, .int .i64 x, .slice A L c] IV (0, 0)) ∧ TIn wx (fun b => b ≠ B) T (vV k n s x A L c)

def CmS (t : Tr) : Prop := ∀ (t' : Tr) (w : World) (S S' : Nat → Prop) (v v' : Value), TIn w S t v → TIn w S' t' v' → tot t ≤ 1000000000 → tot t' ≤ 1000000000 → Calls Tryd.prog 47 #[v, v'] w (GivesQ w (.int .i64 (cmpT t t')))

theorem cmpL_drop {ks : List Ky} {vs : List Tr} {ks' : List Ky} {vs' : List Tr} {j : Nat} {y : Ky} {t : Tr} (h1 : ks[j]? = some y) (h2 : vs[j]? = some t) : cmpL (ks.drop j) (vs.drop j) ks' vs' = match getL ks' vs' y with
    | none => 2
    | some u => thn (cmpT t u) (cmpL (ks.drop (j + 1)) (vs.drop (j + 1)) ks' vs') := by
  obtain ⟨a1, rfl⟩ := List.getElem?_eq_some_iff.1 h1
  obtain ⟨a2, rfl⟩ := List.getElem?_eq_some_iff.1 h2
  rw [List.drop_eq_getElem_cons a1, List.drop_eq_getElem_cons a2, cmpL_cons]
  rfl
theorem tots_item9 : ∀ {ks : List Ky} {vs : List Tr} {j : Nat} {y : Ky} {t : Tr}, ks[j]? = some y → vs[j]? = some t → y.str.size + tot t ≤ tots ks vs
  | [], _, _, _, _, h, _ => by simp at h
  | _ :: _, [], _, _, _, _, h => by simp at h
  | z :: ks, u :: vs, 0, y, t, h, h' => by
    simp at h h'
    subst h h'
    rw [tots]
    omega
  | z :: ks, u :: vs, j + 1, y, t, h, h' => by
    have := tots_item9 (ks := ks) (vs := vs) (j := j) (by simpa using h) (by simpa using h')
    rw [tots]
    omega
theorem getL_tot {ks : List Ky} {vs : List Tr} {y : Ky} {u : Tr} (hl : ks.length = vs.length) (h : getL ks vs y = some u) : tot u ≤ tots ks vs := by
  unfold getL at h
  split at h
  · cases h
  · have hv := (List.getElem?_eq_some_iff.1 h).1
    exact Nat.le_trans (Nat.le_add_left _ _) (tots_item9 (List.getElem?_eq_getElem (by omega : (pos ks y 0).toNat < ks.length)) h)

theorem cmpL_some {ks : List Ky} {vs : List Tr} {ks' : List Ky} {vs' : List Tr} {j : Nat} {y : Ky} {t u : Tr} (h1 : ks[j]? = some y) (h2 : vs[j]? = some t) (hu : getL ks' vs' y = some u) : cmpL (ks.drop j) (vs.drop j) ks' vs' = thn (cmpT t u) (cmpL (ks.drop (j + 1)) (vs.drop (j + 1)) ks' vs') := by rw [cmpL_drop h1 h2, hu]
theorem cmpL_none {ks : List Ky} {vs : List Tr} {ks' : List Ky} {vs' : List Tr} {j : Nat} {y : Ky} {t : Tr} (h1 : ks[j]? = some y) (h2 : vs[j]? = some t) (hu : getL ks' vs' y = none) : cmpL (ks.drop j) (vs.drop j) ks' vs' = 2 := by rw [cmpL_drop h1 h2, hu]
theorem get_of {n x : Int} {s : ByteArray} {ks : List Ky} {vs : List Tr} {y : Ky} {b : Bool} {r : Tr} (h1 : getB (.mk 4 n s x ks vs) y = b) (h2 : getR (.mk 4 n s x ks vs) y = r) : (b = false → getL ks vs y = none) ∧ (b = true → getL ks vs y = some r) := by
  unfold getB at h1
  unfold getR at h2
  rw [getL_getT] at h1 h2
  cases hq : getL ks vs y with
  | none => rw [hq] at h1; subst h1; exact ⟨fun _ => rfl, fun h => Bool.noConfusion h⟩
  | some u => rw [hq] at h1 h2; subst h1; subst h2; exact ⟨fun h => Bool.noConfusion h, fun _ => rfl⟩

set_option maxHeartbeats 4000000 in
set_option maxRecDepth 100000 in
theorem l9Arrays (ks : List Ky) (vs : List Tr) (ih : ∀ t ∈ vs, CmS t) (n : Int) (s : ByteArray) (x : Int) (A : Option Addr) (c : Nat) (n' : Int) (s' : ByteArray) (x' : Int) (ks' : List Ky) (vs' : List Tr) (A' : Option Addr) (c' : Nat) (w : World) (S S' : Nat → Prop)
    (h : TIn w S (.mk 4 n s x ks vs) (vV 4 n s x A vs.length c)) (h' : TIn w S' (.mk 4 n' s' x' ks' vs') (vV 4 n' s' x' A' vs'.length c')) (hT : tots ks vs ≤ 1000000000) (hT' : tots ks' vs' ≤ 1000000000) :
    Calls Tryd.prog 96 #[vV 4 n s x A vs.length c, vV 4 n' s' x' A' vs'.length c'] w (GivesQ w (.int .i64 (if Lib.compareInt vs.length vs'.length = 0 then cmpL ks vs ks' vs' else Lib.compareInt vs.length vs'.length))) := by
  obtain ⟨_, _, e1, -, hin⟩ := h.out
  obtain ⟨rfl, rfl⟩ : A = _ ∧ c = _ := by simpa [vV] using e1
  obtain ⟨_, _, e2, -, hin'⟩ := h'.out
  obtain ⟨rfl, rfl⟩ : A' = _ ∧ c' = _ := by simpa [vV] using e2
  clear e1 e2
  obtain ⟨L, HL⟩ : ∃ L, Hid (vs.length = L) := ⟨_, Lib.hid rfl⟩
  obtain ⟨L', HL'⟩ : ∃ L, Hid (vs'.length = L) := ⟨_, Lib.hid rfl⟩
  have hm : L ≤ maxLen := by rw [← HL.out]; exact hin.2.1
  have hm' : L' ≤ maxLen := by rw [← HL'.out]; exact hin'.2.1
  unfold maxLen at hm hm'
  have HKL' : Hid (ks'.length = vs'.length) := Lib.hid hin'.1
  have HH := Lib.hid h
  have HH' := Lib.hid h'
  have HIN := Lib.hid hin
  have HIN' := Lib.hid hin'
  have HT := Lib.hid hT
  have HT' := Lib.hid hT'
  have IH := Lib.hid ih
  rw [HL.out] at HH ⊢
  rw [HL'.out] at HH' ⊢
  clear h h' hin hin' hT hT' ih
  by_cases hne : L = L'
  · subst hne
    have hci : Lib.compareInt (L : Int) (L : Int) = 0 := by unfold Lib.compareInt; rw [if_neg (by omega), if_neg (by omega)]
    rw [hci, if_pos rfl]
    obtain ⟨W, HW⟩ : ∃ W, Hid (cmpL ks vs ks' vs' = W) := ⟨_, Lib.hid rfl⟩
    rw [HW.out]
    clear hci
    go_enter Tryd.func96, Tryd.ntmps96
    go_wp2_with (fail)
    go_loopg [5] (L + 1) (fun gk i wr => ∃ j : Nat, i = .int .i64 j ∧ gk + j = L + 1 ∧ j ≤ L ∧ Hid (cmpL (ks.drop j) (vs.drop j) ks' vs' = W) ∧
      Hid (wr.heap[w.heap.size]? = some (.cells #[.int .i64 4, .int .i64 n, .string s, .int .i64 x, .slice A L c] IV (0, 0))) ∧ Hid (wr.heap[w.heap.size + 1]? = some (.cells #[.int .i64 4, .int .i64 n', .string s', .int .i64 x', .slice A' L c'] IV (0, 0))) ∧ Below w.heap.size w wr)
    case atStart => exact ⟨0, rfl, by omega, by omega, Lib.hid HW.out, Lib.hid (heap_alloc2_old w _ _), Lib.hid (heap_alloc2_new w _ _), b2 _ _ _⟩
    case round =>
      obtain ⟨j, rfl, hgj, hjL, HQ, HE, HE', hb⟩ := hrel
      have HB := Lib.hid hb
      clear hb
      obtain ⟨r0, -⟩ := rowc HE.out
      obtain ⟨r1, -⟩ := rowc HE'.out
      by_cases hlt : j < L
      · obtain ⟨a, y, k1, n1, s1, x1, ks1, vs1, A1, c1, rfl, hS, hky, hvs, ht, hyb, hkb, hin1, hcell⟩ := (HIN.out.below HB.out).item (i := j) (by rw [HL.out]; exact hlt)
        have HKY := Lib.hid hky
        have htot : tot (.mk k1 n1 s1 x1 ks1 vs1) ≤ 1000000000 := by
          have := tots_item9 hky hvs
          have := HT.out
          omega
        have HVS := Lib.hid hvs
        have HTI := Lib.hid ht
        have HTOT := Lib.hid htot
        obtain ⟨L1, HL1⟩ : ∃ L1, Hid (vs1.length = L1) := ⟨_, Lib.hid rfl⟩
        rw [HL1.out] at hcell HTI
        have L6 : Hid (∀ w', Below w.heap.size w w' → Calls Tryd.prog 132 #[vV 4 n' s' x' A' L c', kyV y] w' (OutT w' (getR (.mk 4 n' s' x' ks' vs') y) (getB (.mk 4 n' s' x' ks' vs') y) (fun b => b < w.heap.size))) := Lib.hid (fun w' hb => l6Get_s _ _ y w' (fun b => b < w.heap.size) (HH'.out.lt'.below' hb))
        obtain ⟨K, N, Z, X, RK, RV, hgr⟩ : ∃ K N Z X RK RV, getR (.mk 4 n' s' x' ks' vs') y = .mk K N Z X RK RV := by
          cases hq : getR (.mk 4 n' s' x' ks' vs') y with
          | mk K N Z X RK RV => exact ⟨K, N, Z, X, RK, RV, rfl⟩
        obtain ⟨bb, hgb⟩ : ∃ bb, getB (.mk 4 n' s' x' ks' vs') y = bb := ⟨_, rfl⟩
        rw [hgr, hgb] at L6
        have HGO := Lib.hid (get_of hgb hgr)
        obtain ⟨RL, HRL⟩ : ∃ L, Hid (RV.length = L) := ⟨_, Lib.hid rfl⟩
        obtain ⟨yb, yn, ys⟩ := y
        have NW0 : w.heap.size + 1 < wr.heap.size := (Array.getElem?_eq_some_iff.1 HE'.out).1
        have NW1 : w.heap.size < wr.heap.size := Nat.lt_of_succ_lt NW0
        have NW2 : (a.add (j * 8)).block < wr.heap.size := World.block_lt_of_cell? _ _ hcell.c0
        clear hky hvs ht hyb hkb hin1 hS htot hgr hgb
        obtain ⟨p0, p1, p2, p3, p4, p5, p6, p7⟩ := hcell
        simp only at p0 p1 p2
        have c04 := r0 4
        have c10 := r1 0
        have c11 := r1 1
        have c12 := r1 2
        have c13 := r1 3
        have c14 := r1 4
        simp only [List.getElem?_toArray, List.getElem?_cons_succ, List.getElem?_cons_zero] at c04 c10 c11 c12 c13 c14
        clear r0 r1
        unfold kyV vV at L6
        go_upto_region 6 with fail
        go_cut [6, 7] (fun p f wx => CutG wr bb K N Z X RL (.mk K N Z X RK RV) p f wx)
        case first =>
          refine wp_region_held_drew (S := fun w' => ∀ b, b < wr.heap.size → w'.heap[b]? = wr.heap[b]?) (by kernel_rfl) ?_ (fun hHeld => ?_)
          · exact fun b hb => rfl
          refine wpAnyH_take (i := 0) (v := ?_) rfl (by kernel_rfl) (by kernel_rfl) (by kernel_rfl) (fun _ _ _ h => h) (Or.inl ⟨by kernel_rfl, ?_⟩) (by assumption) ?_
          rotate_left
          · intro w9 hSw
            have hS9 : ∀ b, b < wr.heap.size → w9.heap[b]? = wr.heap[b]? := hSw
            have y0 := (cell_eq (w := wr) (w' := w9) (a := ⟨w.heap.size + 1, 0, none⟩) (hS9 _ NW0)).trans c10
            have y1 := (cell_eq (w := wr) (w' := w9) (a := ⟨w.heap.size + 1, 1, none⟩) (hS9 _ NW0)).trans c11
            have y2 := (cell_eq (w := wr) (w' := w9) (a := ⟨w.heap.size + 1, 2, none⟩) (hS9 _ NW0)).trans c12
            have y3 := (cell_eq (w := wr) (w' := w9) (a := ⟨w.heap.size + 1, 3, none⟩) (hS9 _ NW0)).trans c13
            have y4 := (cell_eq (w := wr) (w' := w9) (a := ⟨w.heap.size + 1, 4, none⟩) (hS9 _ NW0)).trans c14
            go_simp
            try (with_reducible rfl)
          try simp only [Act.put, List.setIfInBounds_toArray, List.set_cons_zero, List.set_cons_succ, List.getElem_toArray, List.getElem_cons_zero, List.getElem_cons_succ]
          refine wpAnyH_take (i := 1) (v := ?_) rfl (by kernel_rfl) (by kernel_rfl) (by kernel_rfl) (fun _ _ _ h => h) (Or.inl ⟨by kernel_rfl, ?_⟩) (by assumption) ?_
          rotate_left
          · intro w9 hSw
            go_simp
            try (with_reducible rfl)
          try simp only [Act.put, List.setIfInBounds_toArray, List.set_cons_zero, List.set_cons_succ, List.getElem_toArray, List.getElem_cons_zero, List.getElem_cons_succ]
          refine wpAnyH_take (i := 2) (v := ?_) rfl (by kernel_rfl) (by kernel_rfl) (by kernel_rfl) (fun _ _ _ h => h) (Or.inl ⟨by kernel_rfl, ?_⟩) (by assumption) ?_
          rotate_left
          · intro w9 hSw
            have hS9 : ∀ b, b < wr.heap.size → w9.heap[b]? = wr.heap[b]? := hSw
            have y4 := (cell_eq (w := wr) (w' := w9) (a := ⟨w.heap.size, 4, none⟩) (hS9 _ NW1)).trans c04
            go_simp
            try (with_reducible rfl)
          try simp only [Act.put, List.setIfInBounds_toArray, List.set_cons_zero, List.set_cons_succ, List.getElem_toArray, List.getElem_cons_zero, List.getElem_cons_succ]
          refine wpAnyH_take (i := 3) (v := ?_) rfl (by kernel_rfl) (by kernel_rfl) (by kernel_rfl) (fun _ _ _ h => h) (Or.inl ⟨by kernel_rfl, ?_⟩) (by assumption) ?_
          rotate_left
          · intro w9 hSw
            go_simp
            try (with_reducible rfl)
          try simp only [Act.put, List.setIfInBounds_toArray, List.set_cons_zero, List.set_cons_succ, List.getElem_toArray, List.getElem_cons_zero, List.getElem_cons_succ]
          refine wpAnyH_take (i := 4) (v := ?_) rfl (by kernel_rfl) (by kernel_rfl) (by kernel_rfl) (fun _ _ _ h => h) (Or.inl ⟨by kernel_rfl, ?_⟩) (by assumption) ?_
          rotate_left
          · intro w9 hSw
            go_simp
            try (with_reducible rfl)
          try simp only [Act.put, List.setIfInBounds_toArray, List.set_cons_zero, List.set_cons_succ, List.getElem_toArray, List.getElem_cons_zero, List.getElem_cons_succ]
          refine wpAnyH_take (i := 5) (v := ?_) rfl (by kernel_rfl) (by kernel_rfl) (by kernel_rfl) (fun _ _ _ h => h) (Or.inl ⟨by kernel_rfl, ?_⟩) (by assumption) ?_
          rotate_left
          · intro w9 hSw
            go_simp
            try (with_reducible rfl)
          try simp only [Act.put, List.setIfInBounds_toArray, List.set_cons_zero, List.set_cons_succ, List.getElem_toArray, List.getElem_cons_zero, List.getElem_cons_succ]
          refine wpAnyH_take (i := 6) (v := ?_) rfl (by kernel_rfl) (by kernel_rfl) (by kernel_rfl) (fun _ _ _ h => h) (Or.inl ⟨by kernel_rfl, ?_⟩) (by assumption) ?_
          rotate_left
          · intro w9 hSw
            have hS9 : ∀ b, b < wr.heap.size → w9.heap[b]? = wr.heap[b]? := hSw
            have y0 := (cell_eq (w := wr) (w' := w9) (a := a.add (j * 8)) (hS9 _ NW2)).trans p0
            have y1 := (cell_eq (w := wr) (w' := w9) (a := ⟨(a.add (j * 8)).block, (a.add (j * 8)).off + 1, none⟩) (hS9 _ NW2)).trans p1
            have y2 := (cell_eq (w := wr) (w' := w9) (a := ⟨(a.add (j * 8)).block, (a.add (j * 8)).off + 2, none⟩) (hS9 _ NW2)).trans p2
            go_simp
            try (with_reducible rfl)
          try simp only [Act.put, List.setIfInBounds_toArray, List.set_cons_zero, List.set_cons_succ, List.getElem_toArray, List.getElem_cons_zero, List.getElem_cons_succ]
          refine wpAnyH_ready (rs := [7, 11]) (by kernel_rfl) (by simp) ?_
          refine AllReadyH.cons rfl (fun K hK => ?_) ?_
          · go_simp
            go_at_call 132
            refine (L6.out _ ?_).mono ?_
            · exact bs HB.out ((Below.refl wr.heap.size wr).drew)
            rintro e w4 ⟨u, rfl, hv, hb⟩
            have HWX := Lib.hid (bs ((Below.refl wr.heap.size wr).drew) hb)
            obtain ⟨Am, cm, rfl, -, -⟩ := hv.out
            have HMM := Lib.hid hv
            rw [HRL.out] at HMM ⊢
            clear hv hb
            try go_wp2_with (fail)
            refine hK.out _ _ ?_ (fun hHeld => ?_)
            · exact fun b hb9 => HWX.out.block b hb9
            clear hK K
            try simp only [Act.put, List.setIfInBounds_toArray, List.set_cons_zero, List.set_cons_succ, List.getElem_toArray, List.getElem_cons_zero, List.getElem_cons_succ]
            refine wpAnyH_take (i := 8) (v := ?_) rfl (by kernel_rfl) (by kernel_rfl) (by kernel_rfl) (fun _ _ _ h => h) (Or.inl ⟨by kernel_rfl, ?_⟩) (by assumption) ?_
            rotate_left
            · intro w9 hSw
              go_simp
              try (with_reducible rfl)
            try simp only [Act.put, List.setIfInBounds_toArray, List.set_cons_zero, List.set_cons_succ, List.getElem_toArray, List.getElem_cons_zero, List.getElem_cons_succ]
            refine wpAnyH_take (i := 9) (v := ?_) rfl (by kernel_rfl) (by kernel_rfl) (by kernel_rfl) (fun _ _ _ h => h) (Or.inl ⟨by kernel_rfl, ?_⟩) (by assumption) ?_
            rotate_left
            · intro w9 hSw
              go_simp
              try (with_reducible rfl)
            try simp only [Act.put, List.setIfInBounds_toArray, List.set_cons_zero, List.set_cons_succ, List.getElem_toArray, List.getElem_cons_zero, List.getElem_cons_succ]
            refine wpAnyH_take (i := 10) (v := ?_) rfl (by kernel_rfl) (by kernel_rfl) (by kernel_rfl) (fun _ _ _ h => h) (Or.inl ⟨by kernel_rfl, ?_⟩) (by assumption) ?_
            rotate_left
            · intro w9 hSw
              go_simp
              try (with_reducible rfl)
            try simp only [Act.put, List.setIfInBounds_toArray, List.set_cons_zero, List.set_cons_succ, List.getElem_toArray, List.getElem_cons_zero, List.getElem_cons_succ]
            refine wpAnyH_ready (rs := [11]) (by kernel_rfl) (by simp) ?_
            refine AllReadyH.cons rfl (fun K hK => ?_) AllReadyH.nil
            go_simp
            refine hK.out _ _ ?_ (fun hHeld => ?_)
            · exact fun b hb9 => ((b1 w4 _).block b (Nat.lt_of_lt_of_le hb9 HWX.out.size)).trans (HWX.out.block b hb9)
            clear hK K
            try simp only [Act.put, List.setIfInBounds_toArray, List.set_cons_zero, List.set_cons_succ, List.getElem_toArray, List.getElem_cons_zero, List.getElem_cons_succ]
            refine wpAnyH_ready (rs := [12]) (by kernel_rfl) (by simp) ?_
            refine AllReadyH.cons rfl (fun K hK => ?_) AllReadyH.nil
            go_simp
            refine hK.out _ _ ?_ (fun hHeld => ?_)
            · exact fun b hb9 => ((b1 w4 _).block b (Nat.lt_of_lt_of_le hb9 HWX.out.size)).trans (HWX.out.block b hb9)
            clear hK K
            try simp only [Act.put, List.setIfInBounds_toArray, List.set_cons_zero, List.set_cons_succ, List.getElem_toArray, List.getElem_cons_zero, List.getElem_cons_succ]
            refine wpAnyH_ready (rs := [13]) (by kernel_rfl) (by simp) ?_
            refine AllReadyH.cons rfl (fun K hK => ?_) AllReadyH.nil
            go_simp
            refine hK.out _ _ ?_ (fun hHeld => ?_)
            · exact fun b hb9 => ((b1 w4 _).block b (Nat.lt_of_lt_of_le hb9 HWX.out.size)).trans (HWX.out.block b hb9)
            clear hK K
            try simp only [Act.put, List.setIfInBounds_toArray, List.set_cons_zero, List.set_cons_succ, List.getElem_toArray, List.getElem_cons_zero, List.getElem_cons_succ]
            refine wpAnyH_done (by kernel_rfl) ?_ _
            go_wp2_with (fail)
            go_meet
            have hwsz := HWX.out.size
            exact ⟨_, Am, cm, rfl, rfl, bs HWX.out (b1 w4 _), hwsz, heap_alloc_new w4 _, (HMM.out.below' (b1 w4 _)).stays (fun b (hb : b < w.heap.size) => by show b ≠ _; omega) (fun _ _ _ => rfl)⟩
          refine AllReadyH.cons rfl (fun K hK => ?_) AllReadyH.nil
          go_simp
          refine hK.out _ _ ?_ (fun hHeld => ?_)
          · exact fun b hb9 => (Below.drew (b1 wr _)).block b hb9
          clear hK K
          try simp only [Act.put, List.setIfInBounds_toArray, List.set_cons_zero, List.set_cons_succ, List.getElem_toArray, List.getElem_cons_zero, List.getElem_cons_succ]
          refine wpAnyH_ready (rs := [7]) (by kernel_rfl) (by simp) ?_
          refine AllReadyH.cons rfl (fun K hK => ?_) AllReadyH.nil
          go_simp
          go_at_call 132
          refine (L6.out _ ?_).mono ?_
          · exact bs HB.out (Below.drew (b1 wr (.cells #[.int .i64 0, .int .i64 0, .string ⟨#[]⟩, .int .i64 0, .slice none 0 0] IV)))
          rintro e w4 ⟨u, rfl, hv, hb⟩
          have HWX := Lib.hid (bs (Below.drew (b1 wr (.cells #[.int .i64 0, .int .i64 0, .string ⟨#[]⟩, .int .i64 0, .slice none 0 0] IV))) hb)
          obtain ⟨Am, cm, rfl, -, -⟩ := hv.out
          have HMM := Lib.hid hv
          rw [HRL.out] at HMM ⊢
          have EZ : Hid (w4.heap[wr.heap.size]? = some (.cells #[.int .i64 0, .int .i64 0, .string ⟨#[]⟩, .int .i64 0, .slice none 0 0] IV (0, 0))) := Lib.hid (carry hb (heap_alloc_new wr (.cells #[.int .i64 0, .int .i64 0, .string ⟨#[]⟩, .int .i64 0, .slice none 0 0] IV)))
          obtain ⟨zr, zf⟩ := rowc EZ.out
          clear hv hb
          try go_wp2_with (fail)
          refine hK.out _ _ ?_ (fun hHeld => ?_)
          · exact fun b hb9 => HWX.out.block b hb9
          clear hK K
          try simp only [Act.put, List.setIfInBounds_toArray, List.set_cons_zero, List.set_cons_succ, List.getElem_toArray, List.getElem_cons_zero, List.getElem_cons_succ]
          refine wpAnyH_take (i := 8) (v := ?_) rfl (by kernel_rfl) (by kernel_rfl) (by kernel_rfl) (fun _ _ _ h => h) (Or.inl ⟨by kernel_rfl, ?_⟩) (by assumption) ?_
          rotate_left
          · intro w9 hSw
            go_simp
            try (with_reducible rfl)
          try simp only [Act.put, List.setIfInBounds_toArray, List.set_cons_zero, List.set_cons_succ, List.getElem_toArray, List.getElem_cons_zero, List.getElem_cons_succ]
          refine wpAnyH_take (i := 9) (v := ?_) rfl (by kernel_rfl) (by kernel_rfl) (by kernel_rfl) (fun _ _ _ h => h) (Or.inl ⟨by kernel_rfl, ?_⟩) (by assumption) ?_
          rotate_left
          · intro w9 hSw
            go_simp
            try (with_reducible rfl)
          try simp only [Act.put, List.setIfInBounds_toArray, List.set_cons_zero, List.set_cons_succ, List.getElem_toArray, List.getElem_cons_zero, List.getElem_cons_succ]
          refine wpAnyH_take (i := 10) (v := ?_) rfl (by kernel_rfl) (by kernel_rfl) (by kernel_rfl) (fun _ _ _ h => h) (Or.inl ⟨by kernel_rfl, ?_⟩) (by assumption) ?_
          rotate_left
          · intro w9 hSw
            go_simp
            try (with_reducible rfl)
          try simp only [Act.put, List.setIfInBounds_toArray, List.set_cons_zero, List.set_cons_succ, List.getElem_toArray, List.getElem_cons_zero, List.getElem_cons_succ]
          refine wpAnyH_ready (rs := [12]) (by kernel_rfl) (by simp) ?_
          refine AllReadyH.cons rfl (fun K hK => ?_) AllReadyH.nil
          go_simp
          refine hK.out _ _ ?_ (fun hHeld => ?_)
          · exact fun b hb9 => (by have hq : b ≠ wr.heap.size := Nat.ne_of_lt hb9; exact (set_other hq).trans ((set_other hq).trans ((set_other hq).trans ((set_other hq).trans ((set_other hq).trans (HWX.out.block b hb9))))))
          clear hK K
          try simp only [Act.put, List.setIfInBounds_toArray, List.set_cons_zero, List.set_cons_succ, List.getElem_toArray, List.getElem_cons_zero, List.getElem_cons_succ]
          refine wpAnyH_ready (rs := [13]) (by kernel_rfl) (by simp) ?_
          refine AllReadyH.cons rfl (fun K hK => ?_) AllReadyH.nil
          go_simp
          refine hK.out _ _ ?_ (fun hHeld => ?_)
          · exact fun b hb9 => (by have hq : b ≠ wr.heap.size := Nat.ne_of_lt hb9; exact (set_other hq).trans ((set_other hq).trans ((set_other hq).trans ((set_other hq).trans ((set_other hq).trans (HWX.out.block b hb9))))))
          clear hK K
          try simp only [Act.put, List.setIfInBounds_toArray, List.set_cons_zero, List.set_cons_succ, List.getElem_toArray, List.getElem_cons_zero, List.getElem_cons_succ]
          refine wpAnyH_done (by kernel_rfl) ?_ _
          go_wp2_with (fail)
          go_meet
          refine ⟨wr.heap.size, Am, cm, rfl, rfl, ?_, Nat.le_refl _, set_heap (set_heap (set_heap (set_heap (set_heap EZ.out 0 _) 1 _) 2 _) 3 _) 4 _, HMM.out.stays (fun b (hb : b < w.heap.size) => by show b ≠ _; omega) (fun b (hb : b < w.heap.size) hl => ?_)⟩
          · have hle := Nat.le_refl wr.heap.size
            exact ((((HWX.out.setCell hle _).setCell hle _).setCell hle _).setCell hle _).setCell hle _
          · have hq : b ≠ wr.heap.size := by omega
            exact (set_other hq).trans ((set_other hq).trans ((set_other hq).trans ((set_other hq).trans (set_other hq))))
        case rest =>
          obtain ⟨BX, Ax, cx, rfl, rfl, hbx, hnx, hXB, hXT⟩ := hcut
          have HBX := Lib.hid (bs HB.out hbx)
          have HXB := Lib.hid hXB
          have HXT := Lib.hid hXT
          have HXE := Lib.hid (carry hbx HE.out)
          have HXE2 := Lib.hid (carry hbx HE'.out)
          have HW9 := Lib.hid hbx
          have y3 := (cell_eq (w := wr) (w' := wc) (a := ⟨(a.add (j * 8)).block, (a.add (j * 8)).off + 3, none⟩) (hbx.block _ NW2)).trans p3
          have y4 := (cell_eq (w := wr) (w' := wc) (a := ⟨(a.add (j * 8)).block, (a.add (j * 8)).off + 4, none⟩) (hbx.block _ NW2)).trans p4
          have y5 := (cell_eq (w := wr) (w' := wc) (a := ⟨(a.add (j * 8)).block, (a.add (j * 8)).off + 5, none⟩) (hbx.block _ NW2)).trans p5
          have y6 := (cell_eq (w := wr) (w' := wc) (a := ⟨(a.add (j * 8)).block, (a.add (j * 8)).off + 6, none⟩) (hbx.block _ NW2)).trans p6
          have y7 := (cell_eq (w := wr) (w' := wc) (a := ⟨(a.add (j * 8)).block, (a.add (j * 8)).off + 7, none⟩) (hbx.block _ NW2)).trans p7
          have x04 := (cell_eq (w := wr) (w' := wc) (a := ⟨w.heap.size, 4, none⟩) (hbx.block _ NW1)).trans c04
          clear hbx hXB hXT p0 p1 p2 p3 p4 p5 p6 p7 c04 c10 c11 c12 c13 c14 L6 hnx
          obtain ⟨xr, -⟩ := rowc HXB.out
          have z0 := xr 0
          have z1 := xr 1
          have z2 := xr 2
          have z3 := xr 3
          have z4 := xr 4
          simp only [List.getElem?_toArray, List.getElem?_cons_succ, List.getElem?_cons_zero] at z0 z1 z2 z3 z4
          clear xr
          cases bb with
          | false =>
            have HWN : Hid (W = 2) := Lib.hid (HQ.out.symm.trans (cmpL_none HKY.out HVS.out (HGO.out.1 rfl)))
            clear y3 y4 y5 y6 y7 z0 z1 z2 z3 z4 x04
            go_wp2_with (fail)
            go_ret
            exact ⟨by rw [HWN.out]; rfl, HBX.out⟩
          | true =>
            have HGS : Hid (getL ks' vs' ⟨yb, yn, ys⟩ = some (.mk K N Z X RK RV)) := Lib.hid (HGO.out.2 rfl)
            have HDS : Hid (thn (cmpT (.mk k1 n1 s1 x1 ks1 vs1) (.mk K N Z X RK RV)) (cmpL (ks.drop (j + 1)) (vs.drop (j + 1)) ks' vs') = W) := Lib.hid ((cmpL_some HKY.out HVS.out HGS.out).symm.trans HQ.out)
            have hu9 : tot (.mk K N Z X RK RV) ≤ 1000000000 := Nat.le_trans (getL_tot HKL'.out HGS.out) HT'.out
            have CV : ∀ w', Below wc.heap.size wc w' → Calls Tryd.prog 47 #[vV k1 n1 s1 x1 A1 L1 c1, vV K N Z X Ax RL cx] w' (GivesQ w' (.int .i64 (cmpT (.mk k1 n1 s1 x1 ks1 vs1) (.mk K N Z X RK RV)))) := fun w' hb => IH.out _ (List.mem_of_getElem? HVS.out) _ w' _ _ _ _ (HTI.out.below' (bs HW9.out hb)) (HXT.out.below' hb) HTOT.out hu9
            obtain ⟨z, HZ⟩ : ∃ z, Hid (cmpT (.mk k1 n1 s1 x1 ks1 vs1) (.mk K N Z X RK RV) = z) := ⟨_, Lib.hid rfl⟩
            rw [HZ.out] at CV HDS
            have HCV := Lib.hid CV
            clear CV hu9 HGO HGS
            by_cases hz : z = 0
            · subst hz
              go_wp2_with (fail)
              go_region_with ((go_at_call 47; refine (HCV.out _ ?_).mono ?_; exact ((Below.refl wc.heap.size wc).drew); rintro e w5 ⟨rfl, hb5⟩; have HB5 := Lib.hid (bs ((Below.refl wc.heap.size wc).drew) hb5); clear hb5))
              all_goals
                go_wp2_with (fail)
                go_roundg (L - j)
                case rel => exact ⟨j + 1, by go_num, by omega, by omega, Lib.hid (by have := HDS.out; rwa [thn_zero] at this), Lib.hid (carry HB5.out HXE.out), Lib.hid (carry HB5.out HXE2.out), bs HBX.out HB5.out⟩
                case measure => omega
            · have HWZ : Hid (W = z) := Lib.hid (by have := HDS.out; rw [thn_not hz] at this; exact this.symm)
              go_wp2_with (fail)
              go_region_with ((go_at_call 47; refine (HCV.out _ ?_).mono ?_; exact ((Below.refl wc.heap.size wc).drew); rintro e w5 ⟨rfl, hb5⟩; have HB5 := Lib.hid (bs ((Below.refl wc.heap.size wc).drew) hb5); clear hb5))
              all_goals
                go_wp2_with (fail)
                go_ret
                exact ⟨by rw [HWZ.out]; rfl, bs HBX.out HB5.out⟩
      · obtain rfl : j = L := by omega
        have HWN : Hid (W = 0) := Lib.hid (by
          have h2 := HQ.out
          rw [show vs.drop j = [] from List.drop_eq_nil_of_le (Nat.le_of_eq HL.out), cmpL_nil] at h2
          exact h2.symm)
        have c04 := r0 4
        simp only [List.getElem?_toArray, List.getElem?_cons_succ, List.getElem?_cons_zero] at c04
        clear r0 r1
        go_wp2_with (fail)
        go_ret
        exact ⟨by rw [HWN.out]; rfl, HB.out⟩
  · have hci : Lib.compareInt (L : Int) (L' : Int) ≠ 0 := by unfold Lib.compareInt; split <;> (try split) <;> omega
    rw [if_neg hci]
    have OR := l9Order (L : Int) (L' : Int)
    obtain ⟨z, HZ⟩ : ∃ z, Hid (Lib.compareInt (L : Int) (L' : Int) = z) := ⟨_, Lib.hid rfl⟩
    rw [HZ.out] at OR ⊢
    have hne2 : ¬ (L : Int) = (L' : Int) := by omega
    clear hci
    go_enter Tryd.func96, Tryd.ntmps96
    go_wp2_with (fail)
    refine (OR _).mono ?_
    rintro e w1 ⟨rfl, hb1⟩
    have HB1 := Lib.hid (bs (b2 w _ _) hb1)
    clear hb1
    go_wp2_with (fail)
    go_ret
    exact ⟨rfl, HB1.out⟩

end Go.Proofs.YtlbkbcafkjgckaaDoor.tree

/-
  CompareValues and LooseEqual of the model.
  Conditions: the values hold at most 10^9 items and letters.
-/
namespace Go.Proofs.YtlbkbcafkjgckaaDoor.tree
open Go.ChangeShapes Go.WideShapes Go.ChangeAt Go.RowKit ers
set_option linter.unusedVariables false

def CutV9 (w : World) (b : Bool) (N : Nat) (C C' : Array Value) (v : Value) (wx : World) : Prop :=
  v = .bool b ∧ Below w.heap.size w wx ∧ wx.heap[N]? = some (.cells C IV (0, 0)) ∧ wx.heap[N + 1]? = some (.cells C' IV (0, 0))
theorem chain9 (k n : Int) (s : ByteArray) (x : Int) (ks : List Ky) (vs : List Tr) (k' n' : Int) (s' : ByteArray) (x' : Int) (ks' : List Ky) (vs' : List Tr) (y p1 p2 m1 m2 WA : Int) (o1 o2 : Bool)
    (hy : bys (tt (.mk k n s x ks vs)).1 (tt (.mk k' n' s' x' ks' vs')).1 = y) (h1 : tr01 (.mk k n s x ks vs) = p1) (h2 : tr01 (.mk k' n' s' x' ks' vs') = p2) (h3 : nn (.mk k n s x ks vs) = (m1, o1)) (h4 : nn (.mk k' n' s' x' ks' vs') = (m2, o2))
    (h5 : (if Lib.compareInt vs.length vs'.length = 0 then cmpL ks vs ks' vs' else Lib.compareInt vs.length vs'.length) = WA) : cmpT (.mk k n s x ks vs) (.mk k' n' s' x' ks' vs') = (if (k = 0 ∧ k' = 3) ∨ (k' = 0 ∧ k = 3) then y else if (k = 0 ∨ k = 1) ∨ (k' = 0 ∨ k' = 1) then Lib.compareInt p1 p2 else if o1 = true ∧ o2 = true then Lib.compareInt m1 m2 else if (k = 2 ∨ k = 3) ∧ (k' = 2 ∨ k' = 3) then y else if k = 4 ∧ k' = 4 then WA else if k = 4 then 1 else if k' = 4 then -1 else if k = k' ∧ n = n' then 0 else 2) := by
  by_cases h : k = 4 ∧ k' = 4
  · obtain ⟨rfl, rfl⟩ := h
    have ho : o1 = false := by
      rw [nn_mk] at h3
      simp at h3
      exact h3.2
    subst ho
    have hO : ordO (.mk 4 n s x ks vs) (.mk 4 n' s' x' ks' vs') = Lib.compareInt vs.length vs'.length := by
      rw [ordO_mk, h3]
      rw [if_neg (by omega), if_neg (by omega), if_neg (by simp), if_neg (by omega), if_pos ⟨rfl, rfl⟩]
    have hC : (if ((4 : Int) = 0 ∧ (4 : Int) = 3) ∨ ((4 : Int) = 0 ∧ (4 : Int) = 3) then y else if ((4 : Int) = 0 ∨ (4 : Int) = 1) ∨ ((4 : Int) = 0 ∨ (4 : Int) = 1) then Lib.compareInt p1 p2 else if false = true ∧ o2 = true then Lib.compareInt m1 m2 else if ((4 : Int) = 2 ∨ (4 : Int) = 3) ∧ ((4 : Int) = 2 ∨ (4 : Int) = 3) then y else if (4 : Int) = 4 ∧ (4 : Int) = 4 then WA else if (4 : Int) = 4 then 1 else if (4 : Int) = 4 then -1 else if (4 : Int) = (4 : Int) ∧ n = n' then 0 else 2) = WA := by
      rw [if_neg (by omega), if_neg (by omega), if_neg (by simp), if_neg (by omega), if_pos ⟨rfl, rfl⟩]
    rw [cmpT_mk, hO]
    refine Eq.trans ?_ hC.symm
    rw [← h5]
    by_cases hz : Lib.compareInt vs.length vs'.length = 0
    · rw [if_pos ⟨hz, rfl, rfl⟩, if_pos hz]
    · rw [if_neg (fun h => hz h.1), if_neg hz]
  · rw [cmpT_mk, if_neg (fun hh => h hh.2), ordO_mk, hy, h1, h2, h3, h4]
    simp only [if_neg h]

set_option maxHeartbeats 4000000 in
set_option maxRecDepth 100000 in
theorem compare_t : ∀ t, CmS t := Tr.ind fun k n s x ks vs ih t' w S S' v v' h h' hT hT' => by
  obtain ⟨k', n', s', x', ks', vs'⟩ := t'
  obtain ⟨A, c, rfl, -, hin⟩ := h.out
  obtain ⟨A', c', rfl, -, hin'⟩ := h'.out
  have TN := fun w' (hb : Below w.heap.size w w') => toNumber_s _ _ w' S (h.below' hb) hT
  have TN' := fun w' (hb : Below w.heap.size w w') => toNumber_s _ _ w' S' (h'.below' hb) hT'
  have TX := fun w' (hb : Below w.heap.size w w') => toText_s _ _ w' S (h.below' hb) hT
  have TX' := fun w' (hb : Below w.heap.size w w') => toText_s _ _ w' S' (h'.below' hb) hT'
  have BI := fun w' (hb : Below w.heap.size w w') => l9Bit _ _ w' S (h.below' hb)
  have BI' := fun w' (hb : Below w.heap.size w w') => l9Bit _ _ w' S' (h'.below' hb)
  have AA : k = 4 → k' = 4 → ∀ w' (hb : Below w.heap.size w w'), Calls Tryd.prog 96 #[vV 4 n s x A vs.length c, vV 4 n' s' x' A' vs'.length c'] w' (GivesQ w' (.int .i64 (if Lib.compareInt vs.length vs'.length = 0 then cmpL ks vs ks' vs' else Lib.compareInt vs.length vs'.length))) := fun h1 h2 w' hb => by
    subst h1 h2
    rw [tot_mk] at hT hT'
    exact l9Arrays ks vs ih n s x A c n' s' x' ks' vs' A' c' w' S S' (h.below' hb) (h'.below' hb) (by omega) (by omega)
  unfold nnV at TN TN'
  unfold ttV at TX TX'
  have hm : vs.length ≤ maxLen := hin.2.1
  have hm' : vs'.length ≤ maxLen := hin'.2.1
  obtain ⟨WA, HWA⟩ : ∃ z, Hid ((if Lib.compareInt vs.length vs'.length = 0 then cmpL ks vs ks' vs' else Lib.compareInt vs.length vs'.length) = z) := ⟨_, Lib.hid rfl⟩
  rw [HWA.out] at AA
  obtain ⟨⟨m1, o1⟩, HN⟩ : ∃ z, Hid (nn (.mk k n s x ks vs) = z) := ⟨_, Lib.hid rfl⟩
  obtain ⟨⟨m2, o2⟩, HN'⟩ : ∃ z, Hid (nn (.mk k' n' s' x' ks' vs') = z) := ⟨_, Lib.hid rfl⟩
  rw [HN.out] at TN
  rw [HN'.out] at TN'
  obtain ⟨p1, HP⟩ : ∃ z, Hid (tr01 (.mk k n s x ks vs) = z) := ⟨_, Lib.hid rfl⟩
  obtain ⟨p2, HP'⟩ : ∃ z, Hid (tr01 (.mk k' n' s' x' ks' vs') = z) := ⟨_, Lib.hid rfl⟩
  rw [HP.out] at BI
  rw [HP'.out] at BI'
  obtain ⟨y, HY⟩ : ∃ z, Hid (bys (tt (.mk k n s x ks vs)).1 (tt (.mk k' n' s' x' ks' vs')).1 = z) := ⟨_, Lib.hid rfl⟩
  have hch := chain9 k n s x ks vs k' n' s' x' ks' vs' y p1 p2 m1 m2 WA o1 o2 HY.out HP.out HP'.out HN.out HN'.out HWA.out
  have HY1 : Hid (k = 0 → k' = 3 → bys ⟨#[]⟩ s' = y) := Lib.hid (fun h1 h2 => by rw [← HY.out, tt_mk, tt_mk, if_pos h1, h2]; rfl)
  have HY2 : Hid (k = 3 → k' = 0 → bys s ⟨#[]⟩ = y) := Lib.hid (fun h1 h2 => by rw [← HY.out, tt_mk, tt_mk, h1, if_pos h2]; rfl)
  obtain ⟨z, HZ⟩ : ∃ z, Hid ((tt (.mk k n s x ks vs)).1 = z) := ⟨_, Lib.hid rfl⟩
  obtain ⟨z', HZ'⟩ : ∃ z, Hid ((tt (.mk k' n' s' x' ks' vs')).1 = z) := ⟨_, Lib.hid rfl⟩
  rw [HZ.out] at TX HY
  rw [HZ'.out] at TX' HY
  obtain ⟨f1, HF⟩ : ∃ z : Int, Hid ((if (tt (.mk k n s x ks vs)).2 then (0 : Int) else 1) = z) := ⟨_, Lib.hid rfl⟩
  obtain ⟨f2, HF'⟩ : ∃ z : Int, Hid ((if (tt (.mk k' n' s' x' ks' vs')).2 then (0 : Int) else 1) = z) := ⟨_, Lib.hid rfl⟩
  rw [HF.out] at TX
  rw [HF'.out] at TX'
  obtain ⟨g1, HG⟩ : ∃ z : Int, Hid ((if o1 = true then (0 : Int) else 2) = z) := ⟨_, Lib.hid rfl⟩
  obtain ⟨g2, HG'⟩ : ∃ z : Int, Hid ((if o2 = true then (0 : Int) else 2) = z) := ⟨_, Lib.hid rfl⟩
  replace TN : ∀ w', Below w.heap.size w w' → Calls Tryd.prog 46 #[vV k n s x A vs.length c] w' (GivesQ w' (.tuple #[.int .i64 m1, .int .i64 g1])) := fun w' hb => by rw [← HG.out]; exact TN w' hb
  replace TN' : ∀ w', Below w.heap.size w w' → Calls Tryd.prog 46 #[vV k' n' s' x' A' vs'.length c'] w' (GivesQ w' (.tuple #[.int .i64 m2, .int .i64 g2])) := fun w' hb => by rw [← HG'.out]; exact TN' w' hb
  obtain ⟨L, HL⟩ : ∃ L, Hid (vs.length = L) := ⟨_, Lib.hid rfl⟩
  obtain ⟨L', HL'⟩ : ∃ L, Hid (vs'.length = L) := ⟨_, Lib.hid rfl⟩
  rw [HL.out] at TN TX BI AA hm ⊢
  rw [HL'.out] at TN' TX' BI' AA hm' ⊢
  unfold maxLen at hm hm'
  obtain ⟨W, HWW⟩ : ∃ z, Hid (cmpT (.mk k n s x ks vs) (.mk k' n' s' x' ks' vs') = z) := ⟨_, Lib.hid rfl⟩
  have HW : Hid ((if (k = 0 ∧ k' = 3) ∨ (k' = 0 ∧ k = 3) then y else if (k = 0 ∨ k = 1) ∨ (k' = 0 ∨ k' = 1) then Lib.compareInt p1 p2 else if o1 = true ∧ o2 = true then Lib.compareInt m1 m2 else if (k = 2 ∨ k = 3) ∧ (k' = 2 ∨ k' = 3) then y else if k = 4 ∧ k' = 4 then WA else if k = 4 then 1 else if k' = 4 then -1 else if k = k' ∧ n = n' then 0 else 2) = W) := Lib.hid (hch.symm.trans HWW.out)
  rw [HWW.out]
  replace TN := Lib.hid TN
  replace TN' := Lib.hid TN'
  replace TX := Lib.hid TX
  replace TX' := Lib.hid TX'
  replace BI := Lib.hid BI
  replace BI' := Lib.hid BI'
  replace AA := Lib.hid AA
  have BY := Lib.hid (fun a b w' => l9Bytes a b w')
  have OR := Lib.hid (fun a b w' => l9Order a b w')
  clear h h' hin hin' hT hT' ih hch HWA HN HN' HP HP' HZ HZ' HF HF' HWW
  go_enter Tryd.func47, Tryd.ntmps47
  go_wp2_with (fail)
  refine (TN.out _ (b2 w _ _)).mono ?_
  rintro e w1 ⟨rfl, hb1⟩
  have EA := Lib.hid (carry hb1 (heap_alloc2_old w _ _))
  have EB := Lib.hid (carry hb1 (heap_alloc2_new w _ _))
  have HB1 := Lib.hid (bs (b2 w _ _) hb1)
  obtain ⟨rB, -⟩ := rowc EB.out
  clear hb1
  go_wp2_with (fail)
  refine (TN'.out _ HB1.out).mono ?_
  rintro e w2 ⟨rfl, hb2⟩
  have EA2 := Lib.hid (carry hb2 EA.out)
  have EB2 := Lib.hid (carry hb2 EB.out)
  have HB2 := Lib.hid (bs HB1.out hb2)
  clear hb2 rB EA EB
  obtain ⟨rA, -⟩ := rowc EA2.out
  obtain ⟨rB, -⟩ := rowc EB2.out
  go_upto_region 3 with fail
  go_cut [23] (fun v wx => CutV9 w2 ((decide (k = 0) && decide (k' = 3))) w.heap.size #[.int .i64 k, .int .i64 n, .string s, .int .i64 x, .slice A L c] #[.int .i64 k', .int .i64 n', .string s', .int .i64 x', .slice A' L' c'] v wx)
  case first =>
    by_cases hq : k = 0
    · subst hq
      go_wp2_with (fail)
      go_meet
      exact ⟨rfl, Below.refl _ _, EA2.out, EB2.out⟩
    · go_wp2_with (fail)
      go_meet
      exact ⟨by rw [decide_eq_false hq]; rfl, Below.refl _ _, EA2.out, EB2.out⟩
  case rest =>
    obtain ⟨rfl, hbc, hx0, hx1⟩ := hcut
    have HBn := Lib.hid (bs HB2.out hbc)
    clear hbc rA rB EA2 EB2 HB2
    have HB2 := Lib.hid HBn.out
    have EA2 := Lib.hid hx0
    have EB2 := Lib.hid hx1
    clear HBn hx0 hx1
    obtain ⟨rA, -⟩ := rowc EA2.out
    obtain ⟨rB, -⟩ := rowc EB2.out
    cases hq : ((decide (k = 0) && decide (k' = 3)))
    case true =>
      have hq2 : k = 0 ∧ k' = 3 := by simpa using hq
      obtain ⟨rfl, rfl⟩ := hq2
      have HWE : Hid (W = y) := Lib.hid (by rw [← HW.out, if_pos (.inl ⟨rfl, rfl⟩)])
      have BY9 := BY.out ⟨#[]⟩ s'
      rw [HY1.out rfl rfl] at BY9
      go_wp2_with (fail)
      refine (BY9 _).mono ?_
      rintro e w4 ⟨rfl, hb4⟩
      have HB4 := Lib.hid (bs HB2.out hb4)
      clear hb4
      go_wp2_with (fail)
      go_ret
      exact ⟨by rw [HWE.out]; rfl, HB4.out⟩
    case false =>
      have NA := Lib.hid (show ¬ (k = 0 ∧ k' = 3) by simpa using hq)
      clear hq
      go_upto_region 5 with fail
      go_cut [35] (fun v wx => CutV9 wc ((decide (k = 3) && decide (k' = 0))) w.heap.size #[.int .i64 k, .int .i64 n, .string s, .int .i64 x, .slice A L c] #[.int .i64 k', .int .i64 n', .string s', .int .i64 x', .slice A' L' c'] v wx)
      case first =>
        by_cases hq : k = 3
        · subst hq
          go_wp2_with (fail)
          go_meet
          exact ⟨rfl, Below.refl _ _, EA2.out, EB2.out⟩
        · go_wp2_with (fail)
          go_meet
          exact ⟨by rw [decide_eq_false hq]; rfl, Below.refl _ _, EA2.out, EB2.out⟩
      case rest =>
        obtain ⟨rfl, hbc, hx0, hx1⟩ := hcut
        have HBn := Lib.hid (bs HB2.out hbc)
        clear hbc rA rB EA2 EB2 HB2
        have HB2 := Lib.hid HBn.out
        have EA2 := Lib.hid hx0
        have EB2 := Lib.hid hx1
        clear HBn hx0 hx1
        obtain ⟨rA, -⟩ := rowc EA2.out
        obtain ⟨rB, -⟩ := rowc EB2.out
        cases hq : ((decide (k = 3) && decide (k' = 0)))
        case true =>
          have hq2 : k = 3 ∧ k' = 0 := by simpa using hq
          obtain ⟨rfl, rfl⟩ := hq2
          have HWE : Hid (W = y) := Lib.hid (by rw [← HW.out, if_pos (.inr ⟨rfl, rfl⟩)])
          have BY9 := BY.out s ⟨#[]⟩
          rw [HY2.out rfl rfl] at BY9
          go_wp2_with (fail)
          refine (BY9 _).mono ?_
          rintro e w4 ⟨rfl, hb4⟩
          have HB4 := Lib.hid (bs HB2.out hb4)
          clear hb4
          go_wp2_with (fail)
          go_ret
          exact ⟨by rw [HWE.out]; rfl, HB4.out⟩
        case false =>
          have NB := Lib.hid (show ¬ (k = 3 ∧ k' = 0) by simpa using hq)
          clear hq
          have HW1 := Lib.hid ((if_neg (by rintro (h | h); exact NA.out h; exact NB.out h.symm)).symm.trans HW.out)
          clear NA NB HY1 HY2
          go_upto_region 7 with fail
          go_cut [47] (fun v wx => CutV9 wc (((decide (0 ≤ k) && decide (k ≤ 1)) || (decide (0 ≤ k') && decide (k' ≤ 1)))) w.heap.size #[.int .i64 k, .int .i64 n, .string s, .int .i64 x, .slice A L c] #[.int .i64 k', .int .i64 n', .string s', .int .i64 x', .slice A' L' c'] v wx)
          case first =>
            cases hq : (decide (0 ≤ k) && decide (k ≤ 1))
            case false =>
              go_wp2_with (fail)
              refine (in_9 k 0 1 _ hq _).mono ?_
              rintro e w9 ⟨rfl, rfl⟩
              cases hq' : (decide (0 ≤ k') && decide (k' ≤ 1))
              all_goals
                go_wp2_with (fail)
                refine (in_9 k' 0 1 _ hq' _).mono ?_
                rintro e w9 ⟨rfl, rfl⟩
                go_wp2_with (fail)
                go_meet
                exact ⟨by rw [hq, hq']; rfl, Below.refl _ _, EA2.out, EB2.out⟩
            case true =>
              go_wp2_with (fail)
              refine (in_9 k 0 1 _ hq _).mono ?_
              rintro e w9 ⟨rfl, rfl⟩
              go_wp2_with (fail)
              go_meet
              exact ⟨by rw [hq]; rfl, Below.refl _ _, EA2.out, EB2.out⟩
          case rest =>
            obtain ⟨rfl, hbc, hx0, hx1⟩ := hcut
            have HBn := Lib.hid (bs HB2.out hbc)
            clear hbc rA rB EA2 EB2 HB2
            have HB2 := Lib.hid HBn.out
            have EA2 := Lib.hid hx0
            have EB2 := Lib.hid hx1
            clear HBn hx0 hx1
            obtain ⟨rA, -⟩ := rowc EA2.out
            obtain ⟨rB, -⟩ := rowc EB2.out
            cases hq : (((decide (0 ≤ k) && decide (k ≤ 1)) || (decide (0 ≤ k') && decide (k' ≤ 1))))
            case true =>
              have hq2 : (k = 0 ∨ k = 1) ∨ (k' = 0 ∨ k' = 1) := by simp at hq; omega
              have HWE : Hid (W = Lib.compareInt p1 p2) := Lib.hid (by rw [← HW1.out, if_pos hq2])
              clear hq hq2
              have HC : Hid (Below wc.heap.size wc wc) := Lib.hid (Below.refl _ _)
              go_upto_region 8 with fail
              go_region_with (first
                | (go_at_call_of 95 A
                   refine (BI.out _ (bs HB2.out (by first | exact HC.out | exact HC.out.drew))).mono ?_
                   rintro e wz ⟨rfl, hbz⟩
                   have HCX : Hid (Below wc.heap.size wc wz) := Lib.hid (by first | exact bs HC.out hbz | exact bs (HC.out.drew) hbz)
                   clear HC hbz rA rB
                   have HC := Lib.hid HCX.out
                   clear HCX
                   obtain ⟨rA, -⟩ := rowc (carry HC.out EA2.out)
                   obtain ⟨rB, -⟩ := rowc (carry HC.out EB2.out))
                | (go_at_call_of 95 A'
                   refine (BI'.out _ (bs HB2.out (by first | exact HC.out | exact HC.out.drew))).mono ?_
                   rintro e wz ⟨rfl, hbz⟩
                   have HCX : Hid (Below wc.heap.size wc wz) := Lib.hid (by first | exact bs HC.out hbz | exact bs (HC.out.drew) hbz)
                   clear HC hbz rA rB
                   have HC := Lib.hid HCX.out
                   clear HCX
                   obtain ⟨rA, -⟩ := rowc (carry HC.out EA2.out)
                   obtain ⟨rB, -⟩ := rowc (carry HC.out EB2.out))
                | (go_at_call 94
                   refine (OR.out p1 p2 _).mono ?_
                   rintro e wz ⟨rfl, hbz⟩
                   have HCX : Hid (Below wc.heap.size wc wz) := Lib.hid (bs HC.out hbz)
                   clear HC hbz
                   have HC := Lib.hid HCX.out
                   clear HCX))
              all_goals
                go_wp2_with (fail)
                go_ret
                exact ⟨by rw [HWE.out]; rfl, bs HB2.out HC.out⟩
            case false =>
              have hn2 : ¬ ((k = 0 ∨ k = 1) ∨ (k' = 0 ∨ k' = 1)) := fun h => by simp at hq; omega
              have HW2 := Lib.hid ((if_neg hn2).symm.trans HW1.out)
              clear hq hn2 HW1
              go_upto_region 9 with fail
              go_cut [61] (fun v wx => CutV9 wc ((o1 && o2)) w.heap.size #[.int .i64 k, .int .i64 n, .string s, .int .i64 x, .slice A L c] #[.int .i64 k', .int .i64 n', .string s', .int .i64 x', .slice A' L' c'] v wx)
              case first =>
                have f1 := HG.out
                have f2 := HG'.out
                clear HG HG'
                cases o1 <;> cases o2
                all_goals
                  simp only [if_true, if_false, Bool.false_eq_true] at f1 f2
                  subst f1 f2
                  go_wp2_with (fail)
                  go_meet
                  exact ⟨rfl, Below.refl _ _, EA2.out, EB2.out⟩
              case rest =>
                obtain ⟨rfl, hbc, hx0, hx1⟩ := hcut
                have HBn := Lib.hid (bs HB2.out hbc)
                clear hbc rA rB EA2 EB2 HB2
                have HB2 := Lib.hid HBn.out
                have EA2 := Lib.hid hx0
                have EB2 := Lib.hid hx1
                clear HBn hx0 hx1
                obtain ⟨rA, -⟩ := rowc EA2.out
                obtain ⟨rB, -⟩ := rowc EB2.out
                cases hq : ((o1 && o2))
                case true =>
                  have HWE : Hid (W = Lib.compareInt m1 m2) := Lib.hid (by rw [← HW2.out, if_pos (by simpa using hq)])
                  go_wp2_with (fail)
                  refine (OR.out m1 m2 _).mono ?_
                  rintro e w4 ⟨rfl, hb4⟩
                  have HB4 := Lib.hid (bs HB2.out hb4)
                  clear hb4
                  go_wp2_with (fail)
                  go_ret
                  exact ⟨by rw [HWE.out]; rfl, HB4.out⟩
                case false =>
                  have HW3 := Lib.hid ((if_neg (by simpa using hq)).symm.trans HW2.out)
                  clear hq HW2
                  go_upto_region 11 with fail
                  go_cut [71] (fun v wx => CutV9 wc (((decide (2 ≤ k) && decide (k ≤ 3)) && (decide (2 ≤ k') && decide (k' ≤ 3)))) w.heap.size #[.int .i64 k, .int .i64 n, .string s, .int .i64 x, .slice A L c] #[.int .i64 k', .int .i64 n', .string s', .int .i64 x', .slice A' L' c'] v wx)
                  case first =>
                    cases hq : (decide (2 ≤ k) && decide (k ≤ 3))
                    case false =>
                      go_wp2_with (fail)
                      refine (in_9 k 2 3 _ hq _).mono ?_
                      rintro e w9 ⟨rfl, rfl⟩
                      go_wp2_with (fail)
                      go_meet
                      exact ⟨by rw [hq]; rfl, Below.refl _ _, EA2.out, EB2.out⟩
                    case true =>
                      go_wp2_with (fail)
                      refine (in_9 k 2 3 _ hq _).mono ?_
                      rintro e w9 ⟨rfl, rfl⟩
                      cases hq' : (decide (2 ≤ k') && decide (k' ≤ 3))
                      all_goals
                        go_wp2_with (fail)
                        refine (in_9 k' 2 3 _ hq' _).mono ?_
                        rintro e w9 ⟨rfl, rfl⟩
                        go_wp2_with (fail)
                        go_meet
                        exact ⟨by rw [hq, hq']; rfl, Below.refl _ _, EA2.out, EB2.out⟩
                  case rest =>
                    obtain ⟨rfl, hbc, hx0, hx1⟩ := hcut
                    have HBn := Lib.hid (bs HB2.out hbc)
                    clear hbc rA rB EA2 EB2 HB2
                    have HB2 := Lib.hid HBn.out
                    have EA2 := Lib.hid hx0
                    have EB2 := Lib.hid hx1
                    clear HBn hx0 hx1
                    obtain ⟨rA, -⟩ := rowc EA2.out
                    obtain ⟨rB, -⟩ := rowc EB2.out
                    cases hq : (((decide (2 ≤ k) && decide (k ≤ 3)) && (decide (2 ≤ k') && decide (k' ≤ 3))))
                    case true =>
                      have hq2 : (k = 2 ∨ k = 3) ∧ (k' = 2 ∨ k' = 3) := by simp at hq; omega
                      have HWE : Hid (W = bys z z') := Lib.hid (by rw [← HW3.out, if_pos hq2]; exact HY.out.symm)
                      clear hq hq2
                      go_wp2_with (fail)
                      refine (TX.out _ HB2.out).mono ?_
                      rintro e w4 ⟨rfl, hb4⟩
                      have HB4 := Lib.hid (bs HB2.out hb4)
                      have EB4 := Lib.hid (carry hb4 EB2.out)
                      clear hb4 rA rB
                      obtain ⟨rB, -⟩ := rowc EB4.out
                      go_wp2_with (fail)
                      refine (TX'.out _ HB4.out).mono ?_
                      rintro e w5 ⟨rfl, hb5⟩
                      have HB5 := Lib.hid (bs HB4.out hb5)
                      clear hb5 rB
                      go_wp2_with (fail)
                      refine (BY.out z z' _).mono ?_
                      rintro e w6 ⟨rfl, hb6⟩
                      have HB6 := Lib.hid (bs HB5.out hb6)
                      clear hb6
                      go_wp2_with (fail)
                      go_ret
                      exact ⟨by rw [HWE.out]; rfl, HB6.out⟩
                    case false =>
                      have hn2 : ¬ ((k = 2 ∨ k = 3) ∧ (k' = 2 ∨ k' = 3)) := fun h => by simp at hq; omega
                      have HW4 := Lib.hid ((if_neg hn2).symm.trans HW3.out)
                      clear hq hn2 HW3 TN TN' TX TX' BI BI' BY OR HG HG' HY
                      by_cases h4 : k = 4
                      · subst h4
                        by_cases h4' : k' = 4
                        · subst h4'
                          have HWE : Hid (W = WA) := Lib.hid (by rw [← HW4.out, if_pos ⟨rfl, rfl⟩])
                          go_wp2_with (fail)
                          refine (AA.out (by trivial) (by trivial) _ HB2.out).mono ?_
                          rintro e w4 ⟨rfl, hb4⟩
                          have HB4 := Lib.hid (bs HB2.out hb4)
                          clear hb4
                          go_wp2_with (fail)
                          go_ret
                          exact ⟨by rw [HWE.out]; rfl, HB4.out⟩
                        · have HWE : Hid (W = 1) := Lib.hid (by rw [← HW4.out, if_neg (fun h => h4' h.2), if_pos rfl])
                          go_wp2_with (fail)
                          go_ret
                          exact ⟨by rw [HWE.out]; rfl, HB2.out⟩
                      · by_cases h4' : k' = 4
                        · subst h4'
                          have HWE : Hid (W = -1) := Lib.hid (by rw [← HW4.out, if_neg (fun h => h4 h.1), if_neg h4, if_pos rfl])
                          go_wp2_with (fail)
                          go_ret
                          exact ⟨by rw [HWE.out]; rfl, HB2.out⟩
                        · by_cases hk : k = k'
                          · subst hk
                            by_cases hn : n = n'
                            · subst hn
                              have HWE : Hid (W = 0) := Lib.hid (by rw [← HW4.out, if_neg (fun h => h4 h.1), if_neg h4, if_neg h4, if_pos ⟨rfl, rfl⟩])
                              go_wp2_with (fail)
                              go_ret
                              exact ⟨by rw [HWE.out]; rfl, HB2.out⟩
                            · have HWE : Hid (W = 2) := Lib.hid (by rw [← HW4.out, if_neg (fun h => h4 h.1), if_neg h4, if_neg h4, if_neg (fun h => hn h.2)])
                              go_wp2_with (fail)
                              go_ret
                              exact ⟨by rw [HWE.out]; rfl, HB2.out⟩
                          · have HWE : Hid (W = 2) := Lib.hid (by rw [← HW4.out, if_neg (fun h => h4 h.1), if_neg h4, if_neg h4', if_neg (fun h => hk h.1)])
                            go_wp2_with (fail)
                            go_ret
                            exact ⟨by rw [HWE.out]; rfl, HB2.out⟩

theorem compare_s (t t' : Tr) (hT : tot t ≤ 1000000000) (hT' : tot t' ≤ 1000000000) (w : World) (S S' : Nat → Prop) (v v' : Value) (h : TIn w S t v) (h' : TIn w S' t' v') : Calls Tryd.prog 47 #[v, v'] w (GivesQ w (.int .i64 (cmpT t t'))) := compare_t t t' w S S' v v' h h' hT hT'
theorem loose_s (t t' : Tr) (hT : tot t ≤ 1000000000) (hT' : tot t' ≤ 1000000000) (w : World) (S S' : Nat → Prop) (v v' : Value) (h : TIn w S t v) (h' : TIn w S' t' v') :
    Calls Tryd.prog 48 #[v, v'] w (GivesQ w (.bool (decide (cmpT t t' = 0)))) := by
  have CV := fun w' (hb : Below w.heap.size w w') => compare_s t t' hT hT' w' S S' v v' (h.below' hb) (h'.below' hb)
  obtain ⟨k, n, s, x, A, L, c, rfl⟩ : ∃ k n s x A L c, v = vV k n s x A L c := by
    cases h with
    | mk k n s x ks vs A cap C => exact ⟨k, n, s, x, A, _, cap, rfl⟩
  obtain ⟨k', n', s', x', A', L', c', rfl⟩ : ∃ k n s x A L c, v' = vV k n s x A L c := by
    cases h' with
    | mk k n s x ks vs A cap C => exact ⟨k, n, s, x, A, _, cap, rfl⟩
  obtain ⟨z, HZ⟩ : ∃ z, Hid (cmpT t t' = z) := ⟨_, Lib.hid rfl⟩
  rw [HZ.out] at CV ⊢
  have HCV := Lib.hid CV
  clear CV h h'
  go_enter Tryd.func48, Tryd.ntmps48
  go_wp2_with (fail)
  refine (HCV.out _ (by first | exact b2 w _ _ | exact Below.refl _ _)).mono ?_
  rintro e w1 ⟨rfl, hb1⟩
  have HB : Hid (Below w.heap.size w w1) := Lib.hid (by first | exact bs (b2 w _ _) hb1 | exact hb1)
  clear hb1
  by_cases hz : z = 0
  · subst hz
    go_wp2_with (fail)
    go_ret
    exact ⟨rfl, HB.out⟩
  · have hd : decide (z = 0) = false := decide_eq_false hz
    rw [hd]
    go_wp2_with (fail)
    go_ret
    exact ⟨by rw [hd, show (z == 0) = false from beq_eq_false_iff_ne.2 hz]; rfl, HB.out⟩

end Go.Proofs.YtlbkbcafkjgckaaDoor.tree

/-
  How a slice of bytes that came in is opened, and the last step of every law: a call that returns true and changes nothing that was there meets its row.
  Conditions: those that each theorem names.
-/
namespace Go.Proofs.YtlbkbcafkjgckaaDoor.opn
open Go.ChangeShapes Go.WideShapes Go.ChangeAt Go.RowKit mem
set_option linter.unusedVariables false

section
variable {H : Type} {enc : TypeId × Value → H} {P : Program}

theorem all_stay (hl : laidOutB P = true) {W W' : World} (hb : Below W.heap.size W W') : ∀ (ts : List TypeId) (vs : List Value) (ds : List (DataW H)) (ps : List MemPlace),
    (∀ t ∈ ts, P.readableRec t = true ∧ t < P.types.size) → (∀ x ∈ ps, x.block < W.heap.size) → DataW.TrodAll enc P W 0 (fun _ => true) true ts vs ds ps →
    DataW.TrodAll enc P W' 0 (fun b => decide (b < W.heap.size)) true ts vs ds ps
  | [], vs, ds, ps, _, _, h => by
    obtain ⟨rfl, rfl, rfl⟩ := trodAll_nil h
    exact trodAll_mk0
  | t :: ts, vs, ds, ps, hr, hlt, h => by
    obtain ⟨v, vs', d, ds', p, q, rfl, rfl, rfl, h0, h1⟩ := trodAll_cons h
    have ht := hr t List.mem_cons_self
    exact trodAll_cons_mk (Below.trod hl ht.1 ht.2 h0 hb (fun x hx => hlt x (List.mem_append_left _ hx)))
      (all_stay hl hb ts vs' ds' q (fun u hu => hr u (List.mem_cons_of_mem _ hu)) (fun x hx => hlt x (List.mem_append_right _ hx)) h1)

/-- A law's post, from what its walk gives. -/
theorem post_true {f : Func} {s : ChangeSpec} {W W' : World} {args : Array Value} {ds : List (DataW H)} {before : List MemPlace} {tb : TypeId}
    (hW : DataW.Whole enc P f.params.toList s.vars false W args.toList ds [] before) (hv : s.vars = []) (hp : DataW.TrodAll enc P W 0 (fun _ => true) true f.params.toList args.toList ds before)
    (hfn : s.fn H (ds ++ []) = { results := [.lit (.bool true)], args := ds }) (hr : f.resultTypes = #[tb]) (htb : P.underlying tb = some .bool)
    (hl : laidOutB P = true) (hrd : f.params.toList.all (fun t => P.readableRec t && decide (t < P.types.size)) = true) (hb : Below W.heap.size W W') :
    s.post enc P f false true false false W args (.bool true) W' := by
  have hst := all_stay (enc := enc) hl hb f.params.toList args.toList ds before (fun t ht => by have := List.all_eq_true.1 hrd t ht; simpa using this) (fun x hx => hW.lt x hx) hp
  refine ⟨ds, [], before, [], before, [], hW, ?_, ?_, ?_, hb.frame _, fun h => by cases h⟩
  · rw [hfn, hr]
    exact trodAll_mk1 (shut_bool htb _)
  · rw [hfn]
    exact hst
  · rw [hfn, hv]
    rfl

theorem wf_u8 {n : Int} (h : (Lit.int .u8 n).wf = true) : 0 ≤ n ∧ n ≤ 255 := by
  have e1 : IntKind.u8.min = 0 := rfl
  have e2 : IntKind.u8.max = 255 := rfl
  simp [Lit.wf, e1, e2] at h
  omega

/-- A slice of bytes that came in. -/
theorem open_bytes {W : World} {base : Nat} {t e : TypeId} {v : Value} {d : DataW H} {ps : List MemPlace} (ht : P.underlying t = some (.slice e)) (he : P.underlying e = some (.int .u8)) (hc : P.cellsOf e = 1)
    (hval : Value.okWide P W .any base t v) (h : DataW.Trod enc P W 0 (fun _ => true) true t v d ps) :
    ∃ (A : Option Addr) (n c : Nat) (l : List Int), v = .slice A n c ∧ n ≤ maxLen ∧ Rd W A n l := by
  obtain ⟨A, n, c, rfl⟩ := okWide_slice ht hval
  obtain ⟨fuel, hf⟩ := h
  rcases open_ints ht he hc hf with ⟨hcs, _⟩ | ⟨a, len, cap, zs, hcs, _, hl, hm, hz, _, hcell, hwz⟩
  · simp [Value.cells] at hcs
    obtain ⟨rfl, rfl, rfl⟩ := hcs
    exact ⟨none, 0, 0, [], rfl, Nat.zero_le _, rfl, (fun _ h => by cases h), fun hn => absurd hn (by omega)⟩
  · simp [Value.cells] at hcs
    obtain ⟨rfl, rfl, rfl⟩ := hcs
    simp only [if_true] at hz
    have hle : n ≤ zs.length := by omega
    refine ⟨some a, n, c, zs.take n, rfl, by omega, by rw [List.length_take]; omega, fun x hx => wf_u8 (hwz x (List.mem_of_mem_take hx)), fun hn => ⟨a, rfl, fun j x hx => ?_⟩⟩
    have hj : j < n := by
      have := (List.getElem?_eq_some_iff.1 hx).1
      rw [List.length_take] at this
      omega
    rw [List.getElem?_take, if_pos hj] at hx
    have hcj := hcell j (by omega)
    rw [hcj]
    simp [List.getD, hx]
end
end Go.Proofs.YtlbkbcafkjgckaaDoor.opn

/-
  How a value and a key that came in are opened.
  Conditions: those that each theorem names.
-/
namespace Go.Proofs.YtlbkbcafkjgckaaDoor.opt
open Go.ChangeShapes Go.WideShapes Go.ChangeAt Go.RowKit mem tree
set_option linter.unusedVariables false

section
variable {H : Type} {enc : TypeId × Value → H}

theorem types : Types Tryd.prog LV LE LK 64 where
  value := ⟨_, _, _, _, _, Tryd.underlying66, by kernel_rfl, by kernel_rfl, by kernel_rfl, by kernel_rfl, by kernel_rfl, by kernel_rfl⟩
  items := Tryd.underlying64
  item := ⟨_, _, Tryd.underlying145, by kernel_rfl, by kernel_rfl, by kernel_rfl, by kernel_rfl⟩
  key := ⟨_, _, _, Tryd.underlying143, by kernel_rfl, by kernel_rfl, by kernel_rfl, by kernel_rfl⟩
  cV := by kernel_rfl
  cE := by kernel_rfl
  cK := by kernel_rfl

set_option maxRecDepth 100000 in
theorem open_value {W : World} {base : Nat} {v : Value} {d : DataW H} {ps : List MemPlace} (hval : Value.okWide Tryd.prog W .any base LV v) (h : DataW.Trod enc Tryd.prog W 0 (fun _ => true) true LV v d ps) : ∃ t, TIn W (fun _ => True) t v := by
  obtain ⟨cs, rfl, hsz⟩ := okWide_struct Tryd.underlying66 hval
  obtain ⟨fuel, hf⟩ := h
  exact open_tree types fuel _ _ hf

set_option maxRecDepth 100000 in
theorem open_key {W : World} {base : Nat} {v : Value} {d : DataW H} {ps : List MemPlace} (hval : Value.okWide Tryd.prog W .any base LK v) (h : DataW.Trod enc Tryd.prog W 0 (fun _ => true) true LK v d ps) : ∃ y : Ky, v = kyV y ∧ I64 y.num ∧ y.str.size ≤ maxLen := by
  obtain ⟨cs, rfl, hsz⟩ := okWide_struct Tryd.underlying143 hval
  obtain ⟨fuel, hf⟩ := h
  obtain ⟨y, he, hn, hs⟩ := tree.open_key types hf
  refine ⟨y, ?_, hn, hs⟩
  unfold kyV
  congr 1
  apply Array.ext'
  simpa [Value.cells] using he
end

end Go.Proofs.YtlbkbcafkjgckaaDoor.opt

/-
  The last step of a law whose row says that package variables of the project read as they did.
  Conditions: those that each theorem names.
-/
namespace Go.Proofs.YtlbkbcafkjgckaaDoor.opn
open Go.ChangeShapes Go.WideShapes Go.ChangeAt Go.RowKit mem
set_option linter.unusedVariables false

section
variable {H : Type} {enc : TypeId × Value → H} {P : Program}

theorem vars_stay (hl : laidOutB P = true) {W W' : World} (hb : Below W.heap.size W W') : ∀ (ns : List String) (gs : List (DataW H)) (ps : List MemPlace),
    (∀ n ∈ ns, ∀ g t, P.globalNamed n = some g → (P.globals[g]?).map (·.type) = some t → P.readableRec t = true ∧ t < P.types.size) → (∀ x ∈ ps, x.block < W.heap.size) → DataW.TrodVars enc P W (fun _ => true) ns gs ps →
    DataW.TrodVars enc P W' (fun b => decide (b < W.heap.size)) ns gs ps
  | [], [], _, _, _, h => h
  | [], _ :: _, _, _, _, h => by cases h
  | _ :: _, [], _, _, _, h => by cases h
  | n :: ns, d :: ds, ps, hr, hlt, ⟨g, t, cs, fuel, p, q, h1, h2, h3, h4, hs, e⟩ => by
    obtain ⟨r1, r2⟩ := hr n List.mem_cons_self g t h1 h2
    have hT : DataW.Trod enc P W 0 (fun _ => true) true t (.agg cs) d p := ⟨fuel, h4⟩
    obtain ⟨fuel', h5⟩ := Below.trod hl r1 r2 hT hb (fun x hx => hlt x (by rw [e]; exact List.mem_append_left _ (List.mem_append_right _ hx)))
    exact ⟨g, t, cs, fuel', p, q, h1, h2, Joins.var_stays h1 h3 hb (Nat.le_refl _), h5, vars_stay hl hb ns ds q (fun m hm => hr m (List.mem_cons_of_mem _ hm)) (fun x hx => hlt x (by rw [e]; exact List.mem_append_right _ hx)) hs, e⟩

/-- A law's post, from what its walk gives; its row names package variables. -/
theorem post_true_vars {f : Func} {s : ChangeSpec} {W W' : World} {args : Array Value} {ds gs : List (DataW H)} {p q : List MemPlace} {tb : TypeId}
    (hW : DataW.Whole enc P f.params.toList s.vars false W args.toList ds gs (p ++ q)) (hp : DataW.TrodAll enc P W 0 (fun _ => true) true f.params.toList args.toList ds p) (hq : DataW.TrodVars enc P W (fun _ => true) s.vars gs q)
    (hfn : s.fn H (ds ++ gs) = { results := [.lit (.bool true)], args := ds, vars := gs }) (hr : f.resultTypes = #[tb]) (htb : P.underlying tb = some .bool)
    (hl : laidOutB P = true) (hrd : f.params.toList.all (fun t => P.readableRec t && decide (t < P.types.size)) = true)
    (hrv : s.vars.all (fun n => match P.globalNamed n with | none => true | some g => match (P.globals[g]?).map (·.type) with | none => true | some t => P.readableRec t && decide (t < P.types.size)) = true) (hb : Below W.heap.size W W') :
    s.post enc P f false true false false W args (.bool true) W' := by
  have hst := all_stay (enc := enc) hl hb f.params.toList args.toList ds p (fun t ht => by have := List.all_eq_true.1 hrd t ht; simpa using this) (fun x hx => hW.lt x (List.mem_append_left _ hx)) hp
  have hsv := vars_stay (enc := enc) hl hb s.vars gs q (fun n hn g t h1 h2 => by
    have := List.all_eq_true.1 hrv n hn
    rw [h1] at this
    simp only [h2] at this
    simpa using this) (fun x hx => hW.lt x (List.mem_append_right _ hx)) hq
  refine ⟨ds, gs, p ++ q, [], p, q, hW, ?_, ?_, ?_, hb.frame _, fun h => by cases h⟩
  · rw [hfn, hr]
    exact trodAll_mk1 (shut_bool htb _)
  · rw [hfn]
    exact hst
  · rw [hfn]
    exact hsv

end
end Go.Proofs.YtlbkbcafkjgckaaDoor.opn

/-
  The last step of a law whose row names package variables that read as they did, each shown by itself.
  Conditions: those that the theorem names.
-/
namespace Go.Proofs.YtlbkbcafkjgckaaDoor.opn
open Go.ChangeShapes Go.WideShapes Go.ChangeAt Go.RowKit mem
set_option linter.unusedVariables false

theorem post_true_vars2 {H : Type} {enc : TypeId × Value → H} {P : Program} {f : Func} {s : ChangeSpec} {W W' : World} {args : Array Value} {ds gs : List (DataW H)} {p q : List MemPlace} {tb : TypeId}
    (hW : DataW.Whole enc P f.params.toList s.vars false W args.toList ds gs (p ++ q)) (hp : DataW.TrodAll enc P W 0 (fun _ => true) true f.params.toList args.toList ds p)
    (hfn : s.fn H (ds ++ gs) = { results := [.lit (.bool true)], args := ds, vars := gs }) (hr : f.resultTypes = #[tb]) (htb : P.underlying tb = some .bool)
    (hl : laidOutB P = true) (hrd : f.params.toList.all (fun t => P.readableRec t && decide (t < P.types.size)) = true) (hb : Below W.heap.size W W')
    (hsv : DataW.TrodVars enc P W' (fun b => decide (b < W.heap.size)) s.vars gs q) :
    s.post enc P f false true false false W args (.bool true) W' := by
  have hst := all_stay (enc := enc) hl hb f.params.toList args.toList ds p (fun t ht => by have := List.all_eq_true.1 hrd t ht; simpa using this) (fun x hx => hW.lt x (List.mem_append_left _ hx)) hp
  refine ⟨ds, gs, p ++ q, [], p, q, hW, ?_, ?_, ?_, hb.frame _, fun h => by cases h⟩
  · rw [hfn, hr]
    exact trodAll_mk1 (shut_bool htb _)
  · rw [hfn]
    exact hst
  · rw [hfn]
    exact hsv

end Go.Proofs.YtlbkbcafkjgckaaDoor.opn

/-
  CompareValues answers as its model at every two values; it leaves its arguments unmodified.
  Conditions: the package variables that the row lists hold what the program's text lays, and the card ties that to the text.
-/
namespace Go.Proofs.YtlbkbcafkjgckaaDoor.fnExactCompareValues
open Go.ChangeShapes Go.WideShapes Go.ChangeAt Go.RowKit tree ers
open Go.ChangeMaps (open_string)
set_option linter.unusedVariables false

theorem own : ownKnob Tryd.prog.godebug = none := by kernel_rfl

def CutV (W : World) (u v : Value) (wx : World) : Prop := v = u ∧ Below W.heap.size W wx
def CutB (W : World) (b : Bool) (v : Value) (wx : World) : Prop := v = .bool b ∧ Below W.heap.size W wx
theorem rows2 {W wx : World} {N N' : Nat} {C C' : Array Value} {t t' : TypeId} (hb : Below W.heap.size W wx) (e : W.heap[N]? = some (.cells C t (0, 0))) (e' : W.heap[N']? = some (.cells C' t' (0, 0))) : (∀ j, wx.cell? ⟨N, j, none⟩ = C[j]?) ∧ (∀ j, wx.cell? ⟨N', j, none⟩ = C'[j]?) :=
  ⟨(rowc (carry hb e)).1, (rowc (carry hb e')).1⟩

set_option maxHeartbeats 4000000 in
set_option maxRecDepth 100000 in
theorem walk0 (w : World) (T T' : Tr) (v v' : Value) (W : Int) (hr : TIn w (fun _ => True) T v) (hr' : TIn w (fun _ => True) T' v') (hE : CmE w)
    (hCS : tot T ≤ 1048576 → tot T' ≤ 1048576 → ∀ w S S' v v', TIn w S T v → TIn w S' T' v' → Calls Tryd.prog 47 #[v, v'] w (GivesQ w (.int .i64 W)))
    (hCI : tot T ≤ 1048576 → tot T' ≤ 1048576 → ∀ w lo lo' v v', CmE w → TIn w (Nw lo w) T v → TIn w (Nw lo' w) T' v' → Calls Tryd.prog 24 #[v, v'] w (GivesQ w (.int .i64 W))) :
    Calls Tryd.prog 9 #[v, v'] w (TrueQ w) := by
  obtain ⟨k, n, s, x, A, L, c, rfl⟩ : ∃ k n s x A L c, v = vV k n s x A L c := by
    cases hr with
    | mk k n s x ks vs A cap C => exact ⟨k, n, s, x, A, _, cap, rfl⟩
  obtain ⟨k', n', s', x', A', L', c', rfl⟩ : ∃ k n s x A L c, v' = vV k n s x A L c := by
    cases hr' with
    | mk k n s x ks vs A cap C => exact ⟨k, n, s, x, A, _, cap, rfl⟩
  have HR := Lib.hid hr
  have HR' := Lib.hid hr'
  have HEN := Lib.hid hE
  have HCS := Lib.hid hCS
  have HCI := Lib.hid hCI
  clear hr hr' hE hCS hCI
  go_enter Tryd.func9, Tryd.ntmps9
  go_wp2_with (fail)
  refine (szV T _ _ _ (HR.out.below' (b2 _ _ _)) 1048576 (by omega) (by omega)).mono ?_
  rintro e w1 ⟨r, rfl, ⟨hr1, hr2, hr3⟩, hb1⟩
  have EA := Lib.hid (carry hb1 (heap_alloc2_old w _ _))
  have EB := Lib.hid (carry hb1 (heap_alloc2_new w _ _))
  have HB1 := Lib.hid (bs (b2 w _ _) hb1)
  have HR3 := Lib.hid hr3
  obtain ⟨cA, -⟩ := rowc EA.out
  obtain ⟨cB, -⟩ := rowc EB.out
  clear hb1 hr3
  by_cases hlt : r < 0
  · go_wp2_with (fail)
    go_ret
    exact ⟨rfl, HB1.out⟩
  have hr0 : 0 ≤ r := by omega
  have hT : Hid (tot T ≤ 1048576) := Lib.hid (by have := HR3.out hr0; omega)
  go_wp2_with (fail)
  refine (szV T' _ _ _ (HR'.out.below' HB1.out) r hr0 (by omega)).mono ?_
  rintro e w2 ⟨r2, rfl, ⟨hs1, hs2, hs3⟩, hb2⟩
  have EA2 := Lib.hid (carry hb2 EA.out)
  have EB2 := Lib.hid (carry hb2 EB.out)
  have HB2 := Lib.hid (bs HB1.out hb2)
  have HS3 := Lib.hid hs3
  clear hb2 hs3 cA cB EA EB
  by_cases hlt2 : r2 < 0
  · go_wp2_with (fail)
    go_ret
    exact ⟨rfl, HB2.out⟩
  have hT' : Hid (tot T' ≤ 1048576) := Lib.hid (by have := HS3.out (by omega); omega)
  obtain ⟨NA, hNA⟩ : ∃ N, N = w.heap.size := ⟨_, rfl⟩
  have EA3 := EA2.out
  have EB3 := EB2.out
  rw [← hNA] at EA3 EB3 ⊢
  have EA := Lib.hid EA3
  have EB := Lib.hid EB3
  have HNA := Lib.hid hNA
  obtain ⟨cA, -⟩ := rowc EA3
  obtain ⟨cB, -⟩ := rowc EB3
  clear hNA EA2 EB2 EA3 EB3
  go_wp2_with (fail)
  go_cut [6] (fun v wx => CutV w2 (.int .i64 W) v wx)
  case first =>
    have HC : Hid (Below w2.heap.size w2 w2) := Lib.hid (Below.refl _ _)
    go_region_with (first
      | (go_at_call_of 44 A
         refine (cps T hT.out _ _ _ (HR.out.below' (bs HB2.out (by first | exact HC.out | exact HC.out.drew)))).mono ?_
         rintro e wz ⟨va, rfl, hva, hbz⟩
         have HCX : Hid (Below w2.heap.size w2 wz) := Lib.hid (by first | exact bs HC.out hbz | exact bs (HC.out.drew) hbz)
         try (have HVBX := HVB.out.below' hbz
              clear HVB
              have HVB := Lib.hid HVBX
              clear HVBX)
         have HVA := Lib.hid hva
         clear HC hbz hva cA cB
         have HC := Lib.hid HCX.out
         clear HCX
         obtain ⟨cA, cB⟩ := rows2 HC.out EA.out EB.out)
      | (go_at_call_of 44 A'
         refine (cps T' hT'.out _ _ _ (HR'.out.below' (bs HB2.out (by first | exact HC.out | exact HC.out.drew)))).mono ?_
         rintro e wz ⟨vb, rfl, hvb, hbz⟩
         have HCX : Hid (Below w2.heap.size w2 wz) := Lib.hid (by first | exact bs HC.out hbz | exact bs (HC.out.drew) hbz)
         try (have HVAX := HVA.out.below' hbz
              clear HVA
              have HVA := Lib.hid HVAX
              clear HVAX)
         have HVB := Lib.hid hvb
         clear HC hbz hvb cA cB
         have HC := Lib.hid HCX.out
         clear HCX
         obtain ⟨cA, cB⟩ := rows2 HC.out EA.out EB.out)
      | (go_at_call 47
         refine (HCS.out hT.out hT'.out _ _ _ _ _ HVA.out HVB.out).mono ?_
         rintro e wz ⟨rfl, hbz⟩
         have HCX : Hid (Below w2.heap.size w2 wz) := Lib.hid (bs HC.out hbz)
         clear HC hbz
         have HC := Lib.hid HCX.out
         clear HCX))
    all_goals
      go_wp2_with (fail)
      go_meet
      exact ⟨rfl, HC.out⟩
  case rest =>
    obtain ⟨rfl, hbc⟩ := hcut
    have HB3 := Lib.hid (bs HB2.out hbc)
    have EA3 := Lib.hid (carry hbc EA.out)
    have EB3 := Lib.hid (carry hbc EB.out)
    clear hbc cA cB EA EB
    obtain ⟨cA, -⟩ := rowc EA3.out
    go_wp2_with (fail)
    refine (cps T hT.out _ _ _ (HR.out.below' HB3.out)).mono ?_
    rintro e w4 ⟨v4, rfl, hv4, hb4⟩
    obtain ⟨k4, n4, s4, x4, A4, L4, d4, rfl⟩ : ∃ k n s x A L c, v4 = vV k n s x A L c := by
      cases hv4 with
      | mk k n s x ks vs A cap C => exact ⟨k, n, s, x, A, _, cap, rfl⟩
    have EA4 := Lib.hid (keepAlloc (o' := .cells #[.int .i64 k4, .int .i64 n4, .string s4, .int .i64 x4, .slice A4 L4 d4] IV) (carry hb4 EA3.out))
    have EB4 := Lib.hid (keepAlloc (o' := .cells #[.int .i64 k4, .int .i64 n4, .string s4, .int .i64 x4, .slice A4 L4 d4] IV) (carry hb4 EB3.out))
    have HB4 := Lib.hid (bs (bs HB3.out hb4) (b1 w4 (.cells #[.int .i64 k4, .int .i64 n4, .string s4, .int .i64 x4, .slice A4 L4 d4] IV)))
    have HV4 := Lib.hid (hv4.nwb (b1 w4 (.cells #[.int .i64 k4, .int .i64 n4, .string s4, .int .i64 x4, .slice A4 L4 d4] IV)))
    have eF4 := heap_alloc_new w4 (.cells #[.int .i64 k4, .int .i64 n4, .string s4, .int .i64 x4, .slice A4 L4 d4] IV)
    obtain ⟨NF, hNF⟩ : ∃ N, N = w4.heap.size := ⟨_, rfl⟩
    rw [← hNF] at eF4
    have F4 := Lib.hid eF4
    have HNF := Lib.hid hNF
    have lB4 : NA + 1 < w4.heap.size := Nat.lt_of_lt_of_le (Array.getElem?_eq_some_iff.1 EB3.out).1 hb4.size
    obtain ⟨cB, -⟩ := rowc (carry hb4 EB3.out)
    clear hb4 hv4 cA eF4 hNF
    go_wp2_with (fail)
    rw [← HNF.out]
    refine (cps T' hT'.out _ _ _ (HR'.out.below' HB4.out)).mono ?_
    rintro e w5 ⟨v5, rfl, hv5, hb5⟩
    obtain ⟨k5, n5, s5, x5, A5, L5, d5, rfl⟩ : ∃ k n s x A L c, v5 = vV k n s x A L c := by
      cases hv5 with
      | mk k n s x ks vs A cap C => exact ⟨k, n, s, x, A, _, cap, rfl⟩
    have HB5 := Lib.hid (bs (bs HB4.out hb5) (b1 w5 (.cells #[.int .i64 k5, .int .i64 n5, .string s5, .int .i64 x5, .slice A5 L5 d5] IV)))
    have EA5 := Lib.hid (keepAlloc (o' := .cells #[.int .i64 k5, .int .i64 n5, .string s5, .int .i64 x5, .slice A5 L5 d5] IV) (carry hb5 EA4.out))
    have EB5 := Lib.hid (keepAlloc (o' := .cells #[.int .i64 k5, .int .i64 n5, .string s5, .int .i64 x5, .slice A5 L5 d5] IV) (carry hb5 EB4.out))
    have F5 := Lib.hid (keepAlloc (o' := .cells #[.int .i64 k5, .int .i64 n5, .string s5, .int .i64 x5, .slice A5 L5 d5] IV) (carry hb5 F4.out))
    have HV4' := Lib.hid ((HV4.out.nwb hb5).nwb (b1 w5 (.cells #[.int .i64 k5, .int .i64 n5, .string s5, .int .i64 x5, .slice A5 L5 d5] IV)))
    have HV5 := Lib.hid (hv5.nwb (b1 w5 (.cells #[.int .i64 k5, .int .i64 n5, .string s5, .int .i64 x5, .slice A5 L5 d5] IV)))
    have eG5 := heap_alloc_new w5 (.cells #[.int .i64 k5, .int .i64 n5, .string s5, .int .i64 x5, .slice A5 L5 d5] IV)
    have lF5 : NF < w5.heap.size := (Array.getElem?_eq_some_iff.1 (carry hb5 F4.out)).1
    obtain ⟨cF, -⟩ := rowc (carry hb5 F4.out)
    clear hb5 hv5 cB
    go_wp2_with (fail)
    obtain ⟨NG, hNG⟩ : ∃ N, N = w5.heap.size := ⟨_, rfl⟩
    rw [← hNG] at eG5 ⊢
    have G5 := Lib.hid eG5
    clear eG5 hNG cF
    refine (HCI.out hT.out hT'.out _ _ _ _ _ (HEN.out.stays HB5.out) HV4'.out HV5.out).mono ?_
    rintro e w6 ⟨rfl, hb6⟩
    have EA6 := Lib.hid (carry hb6 EA5.out)
    have EB6 := Lib.hid (carry hb6 EB5.out)
    have F6 := Lib.hid (carry hb6 F5.out)
    have G6 := Lib.hid (carry hb6 G5.out)
    have HB6 := Lib.hid (bs HB5.out hb6)
    have HV4 := Lib.hid (HV4'.out.below' hb6)
    have HV5 := Lib.hid (HV5.out.below' hb6)
    clear hb6 HV4'
    obtain ⟨cA, cF⟩ := rows2 (Below.refl _ _) EA6.out F6.out
    go_upto_region 14 with fail
    go_cut [39] (fun v wx => CutB w6 false v wx)
    case first =>
      have HC : Hid (Below w6.heap.size w6 w6) := Lib.hid (Below.refl _ _)
      go_region_with (first
        | (go_at_call 44
           refine (cps T hT.out _ _ _ (HR.out.below' (bs HB6.out (by first | exact HC.out | exact HC.out.drew)))).mono ?_
           rintro e wz ⟨va, rfl, hva, hbz⟩
           have HCX : Hid (Below w6.heap.size w6 wz) := Lib.hid (by first | exact bs HC.out hbz | exact bs (HC.out.drew) hbz)
           have HVA := Lib.hid hva
           clear HC hbz hva cA cF
           have HC := Lib.hid HCX.out
           clear HCX
           obtain ⟨cA, cF⟩ := rows2 HC.out EA6.out F6.out)
        | (go_at_call 45
           refine (eqV T _ _ _ _ _ (HV4.out.below' HC.out) HVA.out).mono ?_
           rintro e wz ⟨rfl, hbz⟩
           have HCX : Hid (Below w6.heap.size w6 wz) := Lib.hid (bs HC.out hbz)
           clear HC hbz
           have HC := Lib.hid HCX.out
           clear HCX))
      all_goals
        go_wp2_with (fail)
        go_meet
        exact ⟨rfl, HC.out⟩
    case rest =>
      obtain ⟨rfl, hbc⟩ := hcut
      have HB7 := Lib.hid (bs HB6.out hbc)
      have EB7 := Lib.hid (carry hbc EB6.out)
      have G7 := Lib.hid (carry hbc G6.out)
      have HV5 := Lib.hid (HV5.out.below' hbc)
      clear hbc cA cF
      obtain ⟨cB, cG⟩ := rows2 (Below.refl _ _) EB7.out G7.out
      go_upto_region 16 with fail
      go_cut [44] (fun v wx => CutB wc false v wx)
      case first =>
        have HC : Hid (Below wc.heap.size wc wc) := Lib.hid (Below.refl _ _)
        go_region_with (first
          | (go_at_call 44
             refine (cps T' hT'.out _ _ _ (HR'.out.below' (bs HB7.out (by first | exact HC.out | exact HC.out.drew)))).mono ?_
             rintro e wz ⟨va, rfl, hva, hbz⟩
             have HCX : Hid (Below wc.heap.size wc wz) := Lib.hid (by first | exact bs HC.out hbz | exact bs (HC.out.drew) hbz)
             have HVA := Lib.hid hva
             clear HC hbz hva cB cG
             have HC := Lib.hid HCX.out
             clear HCX
             obtain ⟨cB, cG⟩ := rows2 HC.out EB7.out G7.out)
          | (go_at_call 45
             refine (eqV T' _ _ _ _ _ (HV5.out.below' HC.out) HVA.out).mono ?_
             rintro e wz ⟨rfl, hbz⟩
             have HCX : Hid (Below wc.heap.size wc wz) := Lib.hid (bs HC.out hbz)
             clear HC hbz
             have HC := Lib.hid HCX.out
             clear HCX))
        all_goals
          go_wp2_with (fail)
          go_meet
          exact ⟨rfl, HC.out⟩
      case rest =>
        obtain ⟨rfl, hbc⟩ := hcut
        have HB8 := Lib.hid (bs HB7.out hbc)
        clear hbc cB cG
        go_wp2_with (fail)
        go_ret
        exact ⟨rfl, HB8.out⟩

theorem walk (t0 : Tr) (v0 : Value) (t1 : Tr) (v1 : Value) (w : World) (hr0 : TIn w (fun _ => True) t0 v0) (hr1 : TIn w (fun _ => True) t1 v1) (hE : CmE w) : Calls Tryd.prog 9 #[v0, v1] w fun e w' => e = .returned (.bool true) ∧ Below w.heap.size w w' :=
  walk0 w t0 t1 v0 v1 (cmpT t0 t1) hr0 hr1 hE (fun hT hT' w S S' v v' h h' => compare_s t0 t1 (by omega) (by omega) w S S' v v' h h') (fun hT hT' w lo lo' v v' hE h h' => compare_i t0 t1 (by omega) (by omega) w lo lo' v v' hE h h')

set_option maxRecDepth 100000 in
theorem lifted (os : Os) (started : os.Started) (H : Type) (enc : TypeId × Value → H) :
    ReturnsInHanded {} Tryd.checked os 9 .any (fun w args => (Rows.fnExactCompareValuesSpec.pre enc Tryd.prog Tryd.f9 [] false w args ∧ laidMetH Tryd.prog ers.cmp.laidOf w) ∧ sizedMet enc Tryd.prog Tryd.f9 (OpenSpec.ofChange Rows.fnExactCompareValuesSpec) false w args)
      (Rows.fnExactCompareValuesSpec.post enc Tryd.prog Tryd.f9 false true false false) := by
  refine returnsInHanded_of_change_and (C := Tryd.checked) (X := fun w _ => laidMetH Tryd.prog ers.cmp.laidOf w) (fun _ _ _ hh h => h.of_heap hh) own started (by kernel_rfl) Tryd.func9
    (ChangeSpec.witness_shaped (enc := enc) (C := Tryd.checked) (os := os) (X := fun w _ => laidMetH Tryd.prog ers.cmp.laidOf w) false (World.doorLaid Tryd.prog 400 os) #[.agg #[.int .i64 0, .int .i64 0, .string ⟨#[]⟩, .int .i64 0, .slice none 0 0], .agg #[.int .i64 0, .int .i64 0, .string ⟨#[]⟩, .int .i64 0, .slice none 0 0]] 8 rfl (World.shaped_of_RefB (by kernel_rfl) (by kernel_rfl)) (by kernel_rfl) (by kernel_rfl) (by kernel_rfl) (ers.cmp.door_met os _)) ?_
  intro W base args ds gs before hval0 hW _ hsz0 hL _
  have hval : ∀ (j : Nat) t v, Tryd.f9.params[j]? = some t → args[j]? = some v → Value.okWide Tryd.prog W .any base t v := hval0
  have hW' := hW
  obtain ⟨p, q, hA0, hV, rfl, hfz, hnd⟩ := hW
  have hA : DataW.TrodAll enc Tryd.prog W 0 (fun _ => true) true Tryd.f9.params.toList args.toList ds p := hA0
  have hA2 := hA
  rw [Tryd.params9] at hA hval
  obtain ⟨v0, vs0, d0, ds0, p0, q0, hargs, rfl, rfl, h0, r0⟩ := trodAll_cons hA
  obtain ⟨v1, vs1, d1, ds1, p1, q1, rfl, rfl, rfl, h1, r1⟩ := trodAll_cons r0
  obtain ⟨rfl, rfl, rfl⟩ := trodAll_nil r1
  obtain rfl : args = #[v0, v1] := by cases args; simp_all
  have hE := ers.cmp.env_of hL
  obtain ⟨-, ⟨a, hEa⟩, ⟨b, hEb⟩⟩ := id hE
  obtain ⟨rfl, rfl⟩ := hV.unique (readNT enc hEa hEb _)
  obtain ⟨t0, hr0⟩ := opt.open_value (hval 0 66 v0 rfl rfl) h0
  obtain ⟨t1, hr1⟩ := opt.open_value (hval 1 66 v1 rfl rfl) h1
  clear hA0 hval0
  refine (walk t0 v0 t1 v1 W hr0 hr1 hE).mono fun e W' ⟨he, hb⟩ => ?_
  subst he
  exact ⟨_, rfl, opn.post_true_vars2 hW' hA2 rfl rfl Tryd.underlying4 (by kernel_rfl) (by kernel_rfl) hb (readNT enc (hEa.stays hb) (hEb.stays hb) _)⟩

theorem over : Rows.FnExactCompareValuesSaid :=
  OpenClaim.holds_of_wide 9 Tryd.f9 rfl rfl rfl rfl rfl rfl rfl ⟨rfl, rfl, rfl, rfl, rfl⟩ rfl rfl rfl rfl rfl (by kernel_rfl) Tryd.func9 (by kernel_rfl)
    (of_decide_eq_true (by kernel_rfl)) (by unfold Func.isWrapper; first | (rw [if_pos (by decide +kernel)]; kernel_rfl) | (rw [if_neg (by decide +kernel)]; exact ⟨rfl, rfl⟩))
    (fun os started H enc _ => lifted os started H enc)

/-- The statement. -/
theorem proved : Rows.FnExactCompareValuesCardSaid :=
  Claim7.holds_tied_plain_at .later [] Rows.fnExactCompareValuesCard.laidKinds true Rows.fnExactCompareValuesCard.stood.harness Rows.fnExactCompareValuesCard.stood.looks
    over (fun _ h => by cases h) (by kernel_rfl) (fun _ h => by cases h) fnExactCompareValues_row_tie rfl ⟨rfl, rfl⟩ (by kernel_rfl) rfl
    (fun f fn hf hfn => by
      obtain rfl : f = 9 := Option.some.inj ((show Tryd.prog.funcNamed "loop.example/g03011/laws.FnExactCompareValues" = some 9 by kernel_rfl).symm.trans hf) |>.symm
      obtain rfl : fn = Tryd.f9 := (Option.some.inj (Tryd.func9.symm.trans hfn)).symm
      exact ⟨by kernel_rfl, fun j t ht => by
        rw [Tryd.params9] at ht
        have hm : t ∈ [66, 66] := by simpa using Array.mem_of_getElem? ht
        have hall : ([66, 66].all fun u => !Tryd.prog.wantsStandIn u) = true := by kernel_rfl
        exact (show Tryd.prog.wantsStandIn t = false by simpa using List.all_eq_true.1 hall t hm)⟩)
    (by kernel_rfl)
#print axioms proved
end Go.Proofs.YtlbkbcafkjgckaaDoor.fnExactCompareValues

