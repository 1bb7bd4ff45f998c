/-
  The laws' marks put into keys in a row.
  Conditions: those that each theorem names.
-/
import Derived.Test.YtclnbfndkcpopaaKeyLaw
namespace Go.Proofs.Ytclnbfndkcpopaa.tree
open Go.ChangeShapes Go.WideShapes Go.ChangeAt Go.RowKit
set_option linter.unusedVariables false

def set3 (arr : Array Value) (o : Nat) (c0 c1 c2 : Value) : Array Value := ((arr.setIfInBounds o c0).setIfInBounds (o + 1) c1).setIfInBounds (o + 2) c2
theorem set3_size (arr : Array Value) (o : Nat) (c0 c1 c2 : Value) : (set3 arr o c0 c1 c2).size = arr.size := by simp [set3]
theorem set3_out (arr : Array Value) (o : Nat) (c0 c1 c2 : Value) (p : Nat) (h : p < o ∨ o + 3 ≤ p) : (set3 arr o c0 c1 c2)[p]? = arr[p]? := by
  unfold set3
  iterate 3 rw [Array.getElem?_setIfInBounds_ne (by omega)]
theorem set3_in (arr : Array Value) (o : Nat) (c0 c1 c2 : Value) (h : o + 3 ≤ arr.size) (q : Nat) (hq : q < 3) : (set3 arr o c0 c1 c2)[o + q]? = (#[c0, c1, c2] : Array Value)[q]? := by
  unfold set3
  match q, hq with
  | 0, _ => iterate 2 rw [Array.getElem?_setIfInBounds_ne (by omega)]
            rw [Nat.add_zero, Array.getElem?_setIfInBounds_self_of_lt (by omega)]; rfl
  | 1, _ => rw [Array.getElem?_setIfInBounds_ne (by omega), Array.getElem?_setIfInBounds_self_of_lt (by simp; omega)]; rfl
  | 2, _ => rw [Array.getElem?_setIfInBounds_self_of_lt (by simp; omega)]; rfl

/-- The first j keys have marks. -/
def Mkd (w : World) (g c : Nat) (m : Int) (j : Nat) : Prop := ∃ cur, w.heap[g]? = some (.cells cur IK (0, 0)) ∧ cur.size = c * 3 ∧ ∀ i, i < j → ∀ q, q < 3 → cur[i * 3 + q]? = (#[.bool (mkY (m + 3 * i)).text, .int .i64 (mkY (m + 3 * i)).num, .string (mkY (m + 3 * i)).str] : Array Value)[q]?
theorem Mkd.step {w w2 : World} {g c j : Nat} {m : Int} (h : Mkd w g c m j) (hc : j < c) (h2 : ∀ cur, w.heap[g]? = some (.cells cur IK (0, 0)) → w2.heap[g]? = some (.cells (set3 cur (j * 3) (.bool (mkY (m + 3 * j)).text) (.int .i64 (mkY (m + 3 * j)).num) (.string (mkY (m + 3 * j)).str)) IK (0, 0))) : Mkd w2 g c m (j + 1) := by
  obtain ⟨cur, hg, hs, hi⟩ := h
  refine ⟨_, h2 cur hg, by rw [set3_size, hs], fun i hij q hq => ?_⟩
  by_cases e : i = j
  · subst e
    rw [set3_in _ _ _ _ _ (by omega) q hq]
  · rw [set3_out _ _ _ _ _ _ (by omega)]
    exact hi i (by omega) q hq

def MksQ (w : World) (lo : Nat) (v : Value) (m : Int) (n : Nat) (e : Ending) (w' : World) : Prop := e = .returned (.int .i64 (m + 3 * n)) ∧ KRow w' lo v (kmk m n) ∧ Fr (fun b => v.ownBlock = some b) w w'

set_option maxRecDepth 100000 in
set_option maxHeartbeats 1600000 in
theorem markKeyS (ks : List Ky) (m : Int) (hm0 : 1 ≤ m) (hm1 : m + 3 * ks.length ≤ 100000000000) (w : World) (lo : Nat) (v : Value) (h : KRow w lo v ks) : Calls Try.prog 28 #[v, .int .i64 m] w (MksQ w lo v m ks.length) := by
  rcases h.cases with ⟨rfl, rfl⟩ | ⟨g, c, cur, rfl, hlo, hg, hn, hc, hs, -⟩
  · unfold MksQ
    have e0 : m + 3 * (([] : List Ky).length : Int) = m := by simp
    rw [e0]
    clear h
    go_enter Try.func28, Try.ntmps28
    go_wp2_with (fail)
    go_loopg [1, 5] 1 (fun gk l i wr => l = .int .i64 m ∧ i = .int .i64 0 ∧ gk = 1 ∧ w = wr)
    case atStart => exact ⟨rfl, rfl, rfl, rfl⟩
    case round =>
      obtain ⟨rfl, rfl, rfl, rfl⟩ := hrel
      go_wp2_with (fail)
      go_ret
      exact ⟨rfl, World.ownsRow_nil _ _ _ 3, Fr.refl _ _⟩
  · obtain ⟨n, HN⟩ : ∃ n, Hid (ks.length = n) := ⟨_, Lib.hid rfl⟩
    rw [HN.out] at hm1 hn ⊢
    have hnn : n ≤ 100000000000 := by omega
    have HM1 := Lib.hid hm1
    have HC := Lib.hid (And.intro hn hc)
    have HM0 : Hid (Mkd w g c m 0) := Lib.hid ⟨cur, hg, hs, fun i hi => absurd hi (by omega)⟩
    have HLO := Lib.hid hlo
    obtain ⟨W, HW⟩ : ∃ W : Int, Hid (m + 3 * n = W) := ⟨_, Lib.hid rfl⟩
    unfold MksQ
    rw [HW.out]
    clear h hg hn hc hs hm1 hlo
    go_enter Try.func28, Try.ntmps28
    go_wp2_with (fail)
    go_loopg [1, 5] (n + 1) (fun gk l i wr => ∃ (j : Nat) (q : Int), i = .int .i64 j ∧ l = .int .i64 q ∧ gk + j = n + 1 ∧ j ≤ n ∧ 1 ≤ q ∧ q ≤ 100000000000 ∧ Hid (q = m + 3 * j) ∧ Hid (Mkd wr g c m j) ∧ Hid (Fr (fun b => b = g) w wr))
    case atStart => exact ⟨0, m, rfl, rfl, by omega, by omega, hm0, by have := HM1.out; omega, Lib.hid (by simp), HM0, Lib.hid (Fr.refl _ _)⟩
    case round =>
      obtain ⟨j, q, rfl, rfl, hgj, hjL, hq0, hq1, HQ, HK, HF⟩ := hrel
      by_cases hlt : j < n
      · obtain ⟨cur1, hg1, hs1, -⟩ := HK.out
        have hcc := HC.out
        have hgl : g < wr.heap.size := (Array.getElem?_eq_some_iff.1 hg1).1
        obtain ⟨r, f⟩ := rowc hg1
        have z : ∀ p, p < 3 → ∃ u, wr.cell? ⟨g, j * 3 + p, none⟩ = some u := fun p hp => ⟨_, (r _).trans (Array.getElem?_eq_getElem (by omega))⟩
        obtain ⟨z0, hz0⟩ := z 0 (by omega)
        obtain ⟨z1, hz1⟩ := z 1 (by omega)
        rw [Nat.add_zero] at hz0
        have q3 : q + 3 ≤ 100000000000 := by have := HQ.out; have := HM1.out; omega
        have MT2 := markText (q + 2) (by omega) (by omega)
        obtain ⟨u2, HU2⟩ : ∃ u, Hid (mtx (q + 2) = u) := ⟨_, Lib.hid rfl⟩
        unfold MtQ at MT2
        rw [HU2.out] at MT2
        rw [show q + 2 = q + 1 + 1 by omega] at MT2
        have HS1 := Lib.hid hs1
        have HG1 := Lib.hid hg1
        have HGL := Lib.hid hgl
        have HQ2 : Hid (q + 1 + 1 + 1 = m + 3 * ((j + 1 : Nat) : Int)) := Lib.hid (by rw [HQ.out]; push_cast; omega)
        clear r z hs1 hg1 hgl hcc
        by_cases hmod : q % 3 = 0
        all_goals
          obtain ⟨bb, HBB⟩ : ∃ bb, Hid (decide (q % 3 = 0) = bb) := ⟨_, Lib.hid rfl⟩
          go_wp2_with (fail)
          refine (MT2 _).mono ?_
          rintro e w1 ⟨rfl, hb1⟩
          have hg2 := carry hb1 (set_heap (set_heap HG1.out (j * 3) _) (j * 3 + 1) _)
          obtain ⟨r, f1⟩ := rowc hg2
          obtain ⟨z2, hz2⟩ : ∃ u, w1.cell? ⟨g, j * 3 + 2, none⟩ = some u := ⟨_, (r _).trans (Array.getElem?_eq_getElem (by have h1 := HS1.out; have h2 := HC.out; simp; omega))⟩
          have HB1 := Lib.hid hb1
          clear r hb1 hg2
          go_wp2_with (fail)
          go_roundg (n - j)
          case rel =>
            refine ⟨j + 1, q + 1 + 1 + 1, by go_num, rfl, by omega, by omega, by omega, by omega, HQ2, Lib.hid (HK.out.step (by have := HC.out; omega) fun cur hcur => ?_), Lib.hid ?_⟩
            · have hq := HQ.out
              have h3 := set_heap (carry HB1.out (set_heap (set_heap hcur (j * 3) _) (j * 3 + 1) _)) (j * 3 + 2) (.string u2)
              rw [h3, ← hq]
              unfold set3 mkY
              simp only
              rw [HU2.out]
              first | (rw [decide_eq_true hmod]) | rfl
            · refine HF.out.trans (((Fr.set (w := wr) (S := fun b => b = g) rfl _ _).trans (Fr.set (S := fun b => b = g) rfl _ _)).trans ((Fr.of HB1.out).trans (Fr.set (S := fun b => b = g) rfl _ _)))
          case measure => omega
      · obtain rfl : j = n := by omega
        have e : q = W := by rw [HQ.out, ← HW.out]
        subst e
        go_wp2_with (fail)
        go_ret
        refine ⟨rfl, ?_, HF.out.mono fun b hb => by rw [hb]; rfl⟩
        obtain ⟨cur1, hg1, hs1, hi1⟩ := HK.out
        have := KRow.of (ks := kmk m j) HLO.out hg1 (by rw [kmk_len]; exact HC.out.1) HC.out.2 hs1 fun i y hy p hp => by
          have hi : i < j := by have := (List.getElem?_eq_some_iff.1 hy).1; rwa [kmk_len] at this
          rw [kmk_get m j i hi] at hy
          obtain rfl := Option.some.inj hy
          exact hi1 i hi p hp
        rw [kmk_len] at this
        exact this

end Go.Proofs.Ytclnbfndkcpopaa.tree
