/-
  The laws' test whether two values are the same.
  Conditions: those that each theorem names.
-/
import Derived.Test.YtdglmnmalfpipaaGreatDoorSAB2
import Derived.Deep.DeepCutAuto
import Derived.Deep.RegionHeld3
import Derived.BigQuiet
import Derived.Deep.QuietTactic
namespace Go.Proofs.YtdglmnmalfpipaaGreatDoor.tree
open Go.ChangeShapes Go.WideShapes Go.ChangeAt Go.RowKit
set_option linter.unusedVariables false

def SaL (t : Tr) : Prop := ∀ (t' : Tr) (w : World) (S S' : Nat → Prop) (v v' : Value), TIn w S t v → TIn w S' t' v' → Calls Tryz.prog 17 #[v, v'] w (GivesQ w (.bool (sameB t t')))

def CutSa (wr : World) (b : Bool) (N : Nat) (C C' : Array Value) (v : Value) (wx : World) : Prop :=
  v = .bool b ∧ Below wr.heap.size wr wx ∧ wx.heap[N]? = some (.cells C IV (0, 0)) ∧ wx.heap[N + 1]? = some (.cells C' IV (0, 0))
set_option maxHeartbeats 2000000 in
set_option maxRecDepth 100000 in
theorem same_items (ks : List Ky) (vs : List Tr) (ih : ∀ t ∈ vs, SaL t) (k n : Int) (s : ByteArray) (x : Int) (A A' : Option Addr) (c c' : Nat) (ks' : List Ky) (vs' : List Tr) (hl : vs.length = vs'.length) (w : World) (S S' : Nat → Prop) (h : IsIn w S ks vs A) (h' : IsIn w S' ks' vs' A') :
    Calls Tryz.prog 17 #[vV k n s x A vs.length c, vV k n s x A' vs.length c'] w (GivesQ w (.bool (sameL ks vs ks' vs'))) := by
  obtain ⟨L, HL⟩ : ∃ L, Hid (L = vs.length) := ⟨_, Lib.hid rfl⟩
  have HL' : Hid (L = vs'.length) := Lib.hid (HL.out.trans hl)
  have hm : L ≤ maxLen := by rw [HL.out]; exact h.2.1
  unfold maxLen at hm
  rw [← HL.out]
  clear hl
  go_enter Tryz.func17, Tryz.ntmps17
  go_wp2_with (fail)
  go_loopg [5] (L + 1) (fun gk i wr => ∃ j : Nat, i = .int .i64 j ∧ gk + j = L + 1 ∧ j ≤ L ∧ Hid (sameL (ks.drop j) (vs.drop j) (ks'.drop j) (vs'.drop j) = sameL ks vs ks' vs') ∧
    Hid (wr.heap[w.heap.size]? = some (.cells #[.int .i64 k, .int .i64 n, .string s, .int .i64 x, .slice A L c] IV (0, 0))) ∧ Hid (wr.heap[w.heap.size + 1]? = some (.cells #[.int .i64 k, .int .i64 n, .string s, .int .i64 x, .slice A' L c'] IV (0, 0))) ∧ Below w.heap.size w wr)
  case atStart => exact ⟨0, rfl, by omega, by omega, Lib.hid (by simp), Lib.hid (heap_alloc2_old w _ _), Lib.hid (heap_alloc2_new w _ _), b2 _ _ _⟩
  case round =>
    obtain ⟨j, rfl, hgj, hjL, HQ, HE, HE', hb⟩ := hrel
    have HB := Lib.hid hb
    clear hb
    obtain ⟨r0, -⟩ := rowc HE.out
    obtain ⟨r1, -⟩ := rowc HE'.out
    by_cases hlt : j < L
    · obtain ⟨a, y, k1, n1, s1, x1, ks1, vs1, A1, c1, rfl, hS, hky, hvs, ht, hyb, hkb, hin1, hcell⟩ := (h.below HB.out).item (i := j) (by rw [← HL.out]; exact hlt)
      obtain ⟨a', y', k2, n2, s2, x2, ks2, vs2, A2, c2, rfl, hS', hky', hvs', ht', hyb', hkb', hin2, hcell'⟩ := (h'.below HB.out).item (i := j) (by rw [← HL'.out]; exact hlt)
      have ihj : ∀ w', Below wr.heap.size wr w' → Calls Tryz.prog 17 #[vV k1 n1 s1 x1 A1 vs1.length c1, vV k2 n2 s2 x2 A2 vs2.length c2] w' (GivesQ w' (.bool (sameB (.mk k1 n1 s1 x1 ks1 vs1) (.mk k2 n2 s2 x2 ks2 vs2)))) := fun w' hb' => ih _ (List.mem_of_getElem? hvs) _ w' S S' _ _ (ht.below' hb') (ht'.below' hb')
      have HD := Lib.hid ((sameL_drop hky hvs hky' hvs').symm.trans HQ.out)
      have NE := fun w => ky_neq w y y'
      unfold kyV at NE
      have b0 := r0 4
      have b1' := r1 4
      simp only [List.getElem?_toArray, List.getElem?_cons_succ, List.getElem?_cons_zero] at b0 b1'
      clear hky hvs hky' hvs' ht ht' hyb hyb' hkb hkb' hin1 hin2 hS hS' r0 r1
      obtain ⟨p0, p1, p2, p3, p4, p5, p6, p7⟩ := hcell
      obtain ⟨q0, q1, q2, q3, q4, q5, q6, q7⟩ := hcell'
      go_upto_region 6 with fail
      by_cases hyy : y = y'
      · rw [show decide (y = y') = true from decide_eq_true hyy] at NE
        have HYY := Lib.hid hyy
        clear hyy
        obtain ⟨b, hbI⟩ : ∃ b, sameB (.mk k1 n1 s1 x1 ks1 vs1) (.mk k2 n2 s2 x2 ks2 vs2) = b := ⟨_, rfl⟩
        rw [hbI] at ihj
        have HBI := Lib.hid hbI
        clear hbI
        go_cut [76] (fun v wx => CutSa wr (!b) w.heap.size #[.int .i64 k, .int .i64 n, .string s, .int .i64 x, .slice (some a) L c] #[.int .i64 k, .int .i64 n, .string s, .int .i64 x, .slice (some a') L c'] v wx)
        case first =>
          go_region_held3 (fun w' => w'.cell? ⟨w.heap.size, 4, none⟩ = some (.slice (some a) L c) ∧ w'.cell? ⟨w.heap.size + 1, 4, none⟩ = some (.slice (some a') L c') ∧ w'.cell? (a.add (j * 8)) = some (.bool y.text) ∧ w'.cell? ⟨(a.add (j * 8)).block, (a.add (j * 8)).off + 1, none⟩ = some (.int .i64 y.num) ∧ w'.cell? ⟨(a.add (j * 8)).block, (a.add (j * 8)).off + 2, none⟩ = some (.string y.str) ∧ w'.cell? ⟨(a.add (j * 8)).block, (a.add (j * 8)).off + 3, none⟩ = some (.int .i64 k1) ∧ w'.cell? ⟨(a.add (j * 8)).block, (a.add (j * 8)).off + 4, none⟩ = some (.int .i64 n1) ∧ w'.cell? ⟨(a.add (j * 8)).block, (a.add (j * 8)).off + 5, none⟩ = some (.string s1) ∧ w'.cell? ⟨(a.add (j * 8)).block, (a.add (j * 8)).off + 6, none⟩ = some (.int .i64 x1) ∧ w'.cell? ⟨(a.add (j * 8)).block, (a.add (j * 8)).off + 7, none⟩ = some (.slice A1 vs1.length c1) ∧ w'.cell? (a'.add (j * 8)) = some (.bool y'.text) ∧ w'.cell? ⟨(a'.add (j * 8)).block, (a'.add (j * 8)).off + 1, none⟩ = some (.int .i64 y'.num) ∧ w'.cell? ⟨(a'.add (j * 8)).block, (a'.add (j * 8)).off + 2, none⟩ = some (.string y'.str) ∧ w'.cell? ⟨(a'.add (j * 8)).block, (a'.add (j * 8)).off + 3, none⟩ = some (.int .i64 k2) ∧ w'.cell? ⟨(a'.add (j * 8)).block, (a'.add (j * 8)).off + 4, none⟩ = some (.int .i64 n2) ∧ w'.cell? ⟨(a'.add (j * 8)).block, (a'.add (j * 8)).off + 5, none⟩ = some (.string s2) ∧ w'.cell? ⟨(a'.add (j * 8)).block, (a'.add (j * 8)).off + 6, none⟩ = some (.int .i64 x2) ∧ w'.cell? ⟨(a'.add (j * 8)).block, (a'.add (j * 8)).off + 7, none⟩ = some (.slice A2 vs2.length c2)) (go_keep)
            (first | (go_at_call 17; refine (ihj _ ?_).mono ?_; (first | exact Below.refl _ _ | exact (Below.refl _ _).drew); rintro e wz ⟨rfl, hbz⟩
                      have HBZ : Hid (Below wr.heap.size wr wz) := Lib.hid (by first | exact hbz | exact ((Below.refl wr.heap.size wr).drew).trans hbz)
                      clear hbz
                      have st : ∀ (a : Addr) (u : Value), wr.cell? a = some u → wz.cell? a = some u := fun a u hu => cell_stays (fun hlt => HBZ.out.block _ hlt) hu
                      have z0 := st _ _ b0
                      have z1 := st _ _ b1'
                      have z2 := st _ _ p0
                      have z3 := st _ _ p1
                      have z4 := st _ _ p2
                      have z5 := st _ _ p3
                      have z6 := st _ _ p4
                      have z7 := st _ _ p5
                      have z8 := st _ _ p6
                      have z9 := st _ _ p7
                      have z10 := st _ _ q0
                      have z11 := st _ _ q1
                      have z12 := st _ _ q2
                      have z13 := st _ _ q3
                      have z14 := st _ _ q4
                      have z15 := st _ _ q5
                      have z16 := st _ _ q6
                      have z17 := st _ _ q7
                      clear st))
          all_goals
            go_wp2_with (fail)
            go_meet
            exact ⟨rfl, HBZ.out, carry HBZ.out HE.out, carry HBZ.out HE'.out⟩
        case rest =>
          obtain ⟨rfl, hbc, hx0, hx1⟩ := hcut
          have HBc := Lib.hid (bs HB.out hbc)
          have HX0 := Lib.hid hx0
          have HX1 := Lib.hid hx1
          clear hbc hx0 hx1 p0 p1 p2 p3 p4 p5 p6 p7 q0 q1 q2 q3 q4 q5 q6 q7 b0 b1' NE
          cases b with
          | false =>
            have HF : Hid (false = sameL ks vs ks' vs') := by have := HD.out; rw [show sameB _ _ = false from HBI.out, Bool.and_false, Bool.false_and] at this; exact this
            go_wp2_with (fail)
            go_ret
            exact ⟨by rw [← HF.out]; rfl, HBc.out⟩
          | true =>
            have HF : Hid (sameL (ks.drop (j + 1)) (vs.drop (j + 1)) (ks'.drop (j + 1)) (vs'.drop (j + 1)) = sameL ks vs ks' vs') := by have := HD.out; rw [show sameB _ _ = true from HBI.out, decide_eq_true HYY.out, Bool.and_true, Bool.true_and] at this; exact this
            go_wp2_with (fail)
            go_roundg (L - j)
            case rel => exact ⟨j + 1, by go_num, by omega, by omega, HF, HX0, HX1, HBc.out⟩
            case measure => omega
      · rw [show decide (y = y') = false from decide_eq_false hyy] at NE
        have HF : Hid (false = sameL ks vs ks' vs') := by have := HD.out; rw [show decide (y = y') = false from decide_eq_false hyy, Bool.false_and, Bool.false_and] at this; exact this
        clear hyy
        simp only [Bool.not_false] at NE
        go_cut [76] (fun v wx => CutSa wr true w.heap.size #[.int .i64 k, .int .i64 n, .string s, .int .i64 x, .slice (some a) L c] #[.int .i64 k, .int .i64 n, .string s, .int .i64 x, .slice (some a') L c'] v wx)
        case first =>
          go_quiet ((fail))
          all_goals
            go_wp2_with (fail)
            go_meet
            exact ⟨rfl, below_drewN _ _, (drewN_heap _ _).symm ▸ HE.out, (drewN_heap _ _).symm ▸ HE'.out⟩
        case rest =>
          obtain ⟨rfl, hbc, hx0, hx1⟩ := hcut
          have HBc := Lib.hid (bs HB.out hbc)
          clear hbc hx0 hx1 p0 p1 p2 p3 p4 p5 p6 p7 q0 q1 q2 q3 q4 q5 q6 q7 b0 b1' NE
          go_wp2_with (fail)
          go_ret
          exact ⟨by rw [← HF.out]; rfl, HBc.out⟩
    · obtain rfl : j = L := by omega
      have := HQ.out
      rw [show vs.drop j = [] from List.drop_eq_nil_of_le (Nat.le_of_eq HL.out.symm)] at this
      have HT : Hid (true = sameL ks vs ks' vs') := by
        rw [← this]
        cases ks.drop j <;> rfl
      clear this
      go_wp2_with (fail)
      go_ret
      exact ⟨by rw [← HT.out]; rfl, HB.out⟩

theorem same_l : ∀ t, SaL t := Tr.ind fun k n s x ks vs ih t' w S S' v v' h h' => by
  obtain ⟨k', n', s', x', ks', vs'⟩ := t'
  obtain ⟨A, c, rfl, hk, hin⟩ := h.out
  obtain ⟨A', c', rfl, hk', hin'⟩ := h'.out
  clear h h'
  rw [sameB_mk]
  have e : alikeX (.mk k n s x ks vs) (.mk k' n' s' x' ks' vs') = (decide (k = k') && (decide (n = n') && (decide (s.data.toList = s'.data.toList) && (decide (x = x') && decide (vs.length = vs'.length))))) := rfl
  rw [e]
  clear e
  by_cases h1 : k = k'
  · subst h1
    by_cases h2 : n = n'
    · subst h2
      by_cases h3 : s.data.toList = s'.data.toList
      · obtain rfl := bytes_same h3
        by_cases hx : x = x'
        · subst hx
          by_cases h4 : vs.length = vs'.length
          · simp only [decide_true, Bool.true_and, decide_eq_true h4]
            rw [← h4]
            exact same_items ks vs ih k n s x A A' c c' ks' vs' h4 w S S' hin hin'
          · have h5 : decide (vs.length = vs'.length) = false := decide_eq_false h4
            simp only [decide_true, Bool.true_and, h5, Bool.false_and]
            obtain ⟨L, HL⟩ : ∃ L, Hid (L = vs.length) := ⟨_, Lib.hid rfl⟩
            obtain ⟨L', HL'⟩ : ∃ L, Hid (L = vs'.length) := ⟨_, Lib.hid rfl⟩
            rw [← HL.out, ← HL'.out] at h4 ⊢
            have h6 : ((L : Int) == (L' : Int)) = false := beq_false_of_ne (by omega)
            have h7 : ((L : Int) != (L' : Int)) = true := by simpa [bne] using h6
            clear h5 hk hk' hin hin' ih
            go_enter Tryz.func17, Tryz.ntmps17
            go_wp2
            go_ret
            exact ⟨rfl, b2 _ _ _⟩
        · have h5 : decide (x = x') = false := decide_eq_false hx
          simp only [decide_true, Bool.true_and, h5, Bool.false_and]
          clear h5 hk hk' hin hin' ih
          go_enter Tryz.func17, Tryz.ntmps17
          go_wp2
          go_ret
          exact ⟨rfl, b2 _ _ _⟩
      · obtain ⟨g1, g2⟩ := bytes_ne h3
        have g3 : (s.toList != s'.toList) = true := by simp [bne, g1]
        have h5 : decide (s.data.toList = s'.data.toList) = false := decide_eq_false h3
        simp only [decide_true, Bool.true_and, h5, Bool.false_and]
        clear h5 hk hk' hin hin' ih
        go_enter Tryz.func17, Tryz.ntmps17
        go_wp2
        go_ret
        exact ⟨rfl, b2 _ _ _⟩
    · have h5 : decide (n = n') = false := decide_eq_false h2
      simp only [decide_true, Bool.true_and, h5, Bool.false_and]
      clear h5 hk hk' hin hin' ih
      go_enter Tryz.func17, Tryz.ntmps17
      go_wp2
      go_ret
      exact ⟨rfl, b2 _ _ _⟩
  · have h5 : decide (k = k') = false := decide_eq_false h1
    simp only [h5, Bool.false_and]
    clear h5 hk hk' hin hin' ih
    go_enter Tryz.func17, Tryz.ntmps17
    go_wp2
    go_ret
    exact ⟨rfl, b2 _ _ _⟩

end Go.Proofs.YtdglmnmalfpipaaGreatDoor.tree

