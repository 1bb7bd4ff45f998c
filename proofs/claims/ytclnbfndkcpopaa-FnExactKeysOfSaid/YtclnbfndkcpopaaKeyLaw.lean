/-
  The laws' comparison and marks of keys in a row.
  Conditions: those that each theorem names.
-/
import Derived.Test.YtclnbfndkcpopaaKeyRow
import Derived.Test.YtclnbfndkcpopaaHeld
namespace Go.Proofs.Ytclnbfndkcpopaa.tree
open Go.ChangeShapes Go.WideShapes Go.ChangeAt Go.RowKit
set_option linter.unusedVariables false

theorem kcs_of {xs : List Value} {ks : List Ky} (hl : xs.length = ks.length * 3) (h : ∀ i y, ks[i]? = some y → ∀ q, q < 3 → xs[i * 3 + q]? = (#[.bool y.text, .int .i64 y.num, .string y.str] : Array Value)[q]?) : xs = kcs ks := by
  refine List.ext_getElem? fun p => ?_
  by_cases hp : p < ks.length * 3
  · have hi : p / 3 < ks.length := by omega
    have e : p / 3 * 3 + p % 3 = p := by omega
    have h1 := h (p / 3) ks[p / 3] (List.getElem?_eq_getElem hi) (p % 3) (by omega)
    have h2 := kcs_get ks (p / 3) ks[p / 3] (List.getElem?_eq_getElem hi) (p % 3) (by omega)
    rw [e] at h1 h2
    rw [h1, h2]
  · rw [List.getElem?_eq_none (by omega), List.getElem?_eq_none (by rw [kcs_len]; omega)]

/-- A row of keys: nothing, or a block. -/
theorem KRow.cases {w : World} {lo : Nat} {v : Value} {ks : List Ky} (h : KRow w lo v ks) : (v = .slice none 0 0 ∧ ks = []) ∨ ∃ g c cur, v = .slice (some ⟨g, 0, none⟩) ks.length c ∧ lo ≤ g ∧ w.heap[g]? = some (.cells cur IK (0, 0)) ∧ ks.length ≤ c ∧ c ≤ maxLen ∧ cur.size = c * 3 ∧
    ∀ i y, ks[i]? = some y → ∀ q, q < 3 → cur[i * 3 + q]? = (#[.bool y.text, .int .i64 y.num, .string y.str] : Array Value)[q]? := by
  obtain ⟨h1, h2⟩ := h
  rcases h2 with ⟨rfl, h0⟩ | ⟨g, cap, cur, rfl, hlo, hg, hnc, hcm, hsz, htk⟩
  · exact .inl ⟨rfl, List.eq_nil_of_length_eq_zero h0⟩
  · refine .inr ⟨g, cap, cur, rfl, hlo, hg, hnc, hcm, hsz, fun i y hy q hq => ?_⟩
    have hi := (List.getElem?_eq_some_iff.1 hy).1
    rw [← kcs_get ks i y hy q hq, ← htk, List.getElem?_take_of_lt (by omega), Array.getElem?_toList]
theorem KRow.of {w : World} {lo g c : Nat} {ks : List Ky} {cur : Array Value} (hlo : lo ≤ g) (hg : w.heap[g]? = some (.cells cur IK (0, 0))) (hn : ks.length ≤ c) (hc : c ≤ maxLen) (hs : cur.size = c * 3)
    (h : ∀ i y, ks[i]? = some y → ∀ q, q < 3 → cur[i * 3 + q]? = (#[.bool y.text, .int .i64 y.num, .string y.str] : Array Value)[q]?) : KRow w lo (.slice (some ⟨g, 0, none⟩) ks.length c) ks := by
  refine ⟨kcs_len ks, .inr ⟨g, c, cur, rfl, hlo, hg, hn, hc, hs, ?_⟩⟩
  rw [← Array.length_toList] at hs
  refine kcs_of (by rw [List.length_take]; omega) fun i y hy q hq => ?_
  have hi := (List.getElem?_eq_some_iff.1 hy).1
  rw [List.getElem?_take_of_lt (by omega), Array.getElem?_toList]
  exact h i y hy q hq

set_option maxRecDepth 100000 in
set_option maxHeartbeats 1600000 in
theorem eqKeyS (ks : List Ky) (hm : ks.length ≤ 1000000000) (w : World) (lo lo' : Nat) (v v' : Value) (h : KRow w lo v ks) (h' : KRow w lo' v' ks) : Calls Try.prog 27 #[v, v'] w (TrueQ w) := by
  obtain ⟨L, HL⟩ : ∃ L, Hid (L = ks.length) := ⟨_, Lib.hid rfl⟩
  obtain ⟨A, c, rfl, -, ha⟩ := h.out
  obtain ⟨A', c', rfl, -, ha'⟩ := h'.out
  have HA := Lib.hid ha
  have HA' := Lib.hid ha'
  rw [← HL.out] at hm ⊢
  clear h h' ha ha'
  go_enter Try.func27, Try.ntmps27
  go_wp2_with (fail)
  go_loopg [5] (L + 1) (fun gk i wr => ∃ j : Nat, i = .int .i64 j ∧ gk + j = L + 1 ∧ j ≤ L ∧ Below w.heap.size w wr)
  case atStart => exact ⟨0, rfl, by omega, by omega, Below.refl _ _⟩
  case round =>
    obtain ⟨j, rfl, hgj, hjL, hb⟩ := hrel
    have HB := Lib.hid hb
    clear hb
    by_cases hlt : j < L
    · obtain ⟨y, hy⟩ : ∃ y, ks[j]? = some y := ⟨_, List.getElem?_eq_getElem (by rw [← HL.out]; exact hlt)⟩
      obtain ⟨g, cur, rfl, -, hg, -, hc⟩ := HA.out j y hy
      obtain ⟨g', cur', rfl, -, hg', -, hc'⟩ := HA'.out j y hy
      obtain ⟨r, f⟩ := rowc (carry HB.out hg)
      obtain ⟨r', f'⟩ := rowc (carry HB.out hg')
      have EQ := eqKey y
      obtain ⟨yb, yn, ys⟩ := y
      have p0 := (r _).trans (hc 0 (by omega))
      have p1 := (r _).trans (hc 1 (by omega))
      have p2 := (r _).trans (hc 2 (by omega))
      have q0 := (r' _).trans (hc' 0 (by omega))
      have q1 := (r' _).trans (hc' 1 (by omega))
      have q2 := (r' _).trans (hc' 2 (by omega))
      rw [Nat.add_zero] at p0 q0
      simp only [List.getElem?_toArray, List.getElem?_cons_zero, List.getElem?_cons_succ] at p0 p1 p2 q0 q1 q2
      unfold kyV at EQ
      clear r r' f f' hc hc' hg hg' hy
      go_wp2_with (fail)
      go_region_with ((go_at_call 64; refine (EQ _).mono ?_; rintro e w1 ⟨rfl, hb1⟩; have HB1 := Lib.hid hb1; clear hb1))
      all_goals
        go_wp2_with (fail)
        go_roundg (L - j)
        case rel => exact ⟨j + 1, by go_num, by omega, by omega, bs (bs HB.out ((Below.refl _ _).drew)) HB1.out⟩
        case measure => omega
    · go_wp2_with (fail)
      go_ret
      exact ⟨rfl, HB.out⟩

/-- Keys with marks. -/
def kmk (m : Int) (n : Nat) : List Ky := (List.range n).map fun i : Nat => mkY (m + 3 * (i : Int))
theorem kmk_len (m : Int) (n : Nat) : (kmk m n).length = n := by simp [kmk]
theorem kmk_get (m : Int) (n i : Nat) (h : i < n) : (kmk m n)[i]? = some (mkY (m + 3 * i)) := by
  unfold kmk
  rw [List.getElem?_map, List.getElem?_range h]
  rfl

set_option maxRecDepth 100000 in
set_option maxHeartbeats 1600000 in
theorem heldKeyS (m : Int) (n : Nat) (hm0 : 1 ≤ m) (hm1 : m + 3 * n ≤ 100000000000) (w : World) (lo : Nat) (v : Value) (h : KRow w lo v (kmk m n)) : Calls Try.prog 29 #[v, .int .i64 m] w (GivesQ w (.int .i64 (m + 3 * n))) := by
  obtain ⟨A, c, rfl, -, ha⟩ := h.out
  have HA := Lib.hid ha
  have hn : n ≤ 100000000000 := by omega
  obtain ⟨W, HW⟩ : ∃ W : Int, Hid (m + 3 * n = W) := ⟨_, Lib.hid rfl⟩
  rw [HW.out, kmk_len]
  have HM1 := Lib.hid hm1
  clear h ha hm1
  go_enter Try.func29, Try.ntmps29
  go_wp2_with (fail)
  go_loopg [1, 5] (n + 1) (fun gk l i wr => ∃ (j : Nat) (q : Int), i = .int .i64 j ∧ l = .int .i64 q ∧ gk + j = n + 1 ∧ j ≤ n ∧ 1 ≤ q ∧ q ≤ 100000000000 ∧ Hid (q = m + 3 * j) ∧ Below w.heap.size w wr)
  case atStart => exact ⟨0, m, rfl, rfl, by omega, by omega, hm0, by have := HM1.out; omega, Lib.hid (by simp), Below.refl _ _⟩
  case round =>
    obtain ⟨j, q, rfl, rfl, hgj, hjL, hq0, hq1, HQ, hb⟩ := hrel
    have HB := Lib.hid hb
    clear hb
    by_cases hlt : j < n
    · have hy := kmk_get m n j hlt
      rw [← HQ.out] at hy
      obtain ⟨g, cur, rfl, -, hg, -, hc⟩ := HA.out j _ hy
      have HG := Lib.hid (carry HB.out hg)
      obtain ⟨r, f⟩ := rowc HG.out
      have p0 := (r _).trans (hc 0 (by omega))
      have p1 := (r _).trans (hc 1 (by omega))
      have p2 := (r _).trans (hc 2 (by omega))
      rw [Nat.add_zero] at p0
      have q3 : q + 3 ≤ 100000000000 := by have := HQ.out; have := HM1.out; omega
      have MT2 := markText (q + 2) (by omega) (by omega)
      have z2 := mtx_size (q + 2)
      unfold mkY at p0 p1 p2
      simp only [List.getElem?_toArray, List.getElem?_cons_zero, List.getElem?_cons_succ] at p0 p1 p2
      obtain ⟨u2, HU2⟩ : ∃ u, Hid (mtx (q + 2) = u) := ⟨_, Lib.hid rfl⟩
      unfold MtQ at MT2
      rw [HU2.out] at MT2 z2 p2
      rw [show q + 2 = q + 1 + 1 by omega] at MT2
      obtain ⟨bb, HBB⟩ : ∃ bb, Hid (decide (q % 3 = 0) = bb) := ⟨_, Lib.hid rfl⟩
      rw [HBB.out] at p0
      have hbb : (bb = true → q % 3 = 0) ∧ (bb = false → ¬ q % 3 = 0) := ⟨fun e => of_decide_eq_true (HBB.out.trans e), fun e => of_decide_eq_false (HBB.out.trans e)⟩
      clear r f hc hg hy
      cases bb with
      | true =>
        have hmod := hbb.1 rfl
        clear hbb
        go_wp2_with (fail)
        go_region_with ((go_at_call 65; refine (MT2 _).mono ?_; rintro e w1 ⟨rfl, hb1⟩; have HB1 := Lib.hid (bs ((Below.refl wr.heap.size wr).drew) hb1); have p2' : w1.cell? ⟨g, j * 3 + 2, none⟩ = some (.string u2) := cell_stays (fun hlt => HB1.out.block _ hlt) p2; clear hb1))
        all_goals
          go_wp2_with (fail)
          go_roundg (n - j)
          case rel => exact ⟨j + 1, q + 1 + 1 + 1, by go_num, rfl, by omega, by omega, by omega, by omega, Lib.hid (by rw [HQ.out]; push_cast; omega), bs HB.out HB1.out⟩
          case measure => omega
      | false =>
        have hmod := hbb.2 rfl
        clear hbb
        go_wp2_with (fail)
        go_region_with ((go_at_call 65; refine (MT2 _).mono ?_; rintro e w1 ⟨rfl, hb1⟩; have HB1 := Lib.hid (bs ((Below.refl wr.heap.size wr).drew) hb1); have p2' : w1.cell? ⟨g, j * 3 + 2, none⟩ = some (.string u2) := cell_stays (fun hlt => HB1.out.block _ hlt) p2; clear hb1))
        all_goals
          go_wp2_with (fail)
          go_roundg (n - j)
          case rel => exact ⟨j + 1, q + 1 + 1 + 1, by go_num, rfl, by omega, by omega, by omega, by omega, Lib.hid (by rw [HQ.out]; push_cast; omega), bs HB.out HB1.out⟩
          case measure => omega
    · obtain rfl : j = n := by omega
      have e : q = W := by rw [HQ.out, ← HW.out]
      subst e
      go_wp2_with (fail)
      go_ret
      exact ⟨rfl, HB.out⟩

end Go.Proofs.Ytclnbfndkcpopaa.tree
