/-
  The laws' marks put into tokens in a row.
  Conditions: those that each theorem names.
-/
import Derived.Test.YtakdbfifbkngnaaGreatDoorLaSTkL
namespace Go.Proofs.YtakdbfifbkngnaaGreatDoor.lex
open Go.ChangeShapes Go.WideShapes Go.ChangeAt Go.RowKit
set_option linter.unusedVariables false

def set4k (arr : Array Value) (o : Nat) (c0 c1 c2 c3 : Value) : Array Value := (((arr.setIfInBounds o c0).setIfInBounds (o + 1) c1).setIfInBounds (o + 2) c2).setIfInBounds (o + 3) c3
theorem set4k_size (arr : Array Value) (o : Nat) (c0 c1 c2 c3 : Value) : (set4k arr o c0 c1 c2 c3).size = arr.size := by simp [set4k]
theorem set4k_out (arr : Array Value) (o : Nat) (c0 c1 c2 c3 : Value) (p : Nat) (h : p < o ∨ o + 4 ≤ p) : (set4k arr o c0 c1 c2 c3)[p]? = arr[p]? := by
  unfold set4k
  iterate 4 rw [Array.getElem?_setIfInBounds_ne (by omega)]
theorem set4k_in (arr : Array Value) (o : Nat) (c0 c1 c2 c3 : Value) (h : o + 4 ≤ arr.size) (q : Nat) (hq : q < 4) : (set4k arr o c0 c1 c2 c3)[o + q]? = (#[c0, c1, c2, c3] : Array Value)[q]? := by
  unfold set4k
  match q, hq with
  | 0, _ => iterate 3 rw [Array.getElem?_setIfInBounds_ne (by omega)]
            rw [Nat.add_zero, Array.getElem?_setIfInBounds_self_of_lt (by omega)]; rfl
  | 1, _ => iterate 2 rw [Array.getElem?_setIfInBounds_ne (by omega)]
            rw [Array.getElem?_setIfInBounds_self_of_lt (by simp; omega)]; rfl
  | 2, _ => rw [Array.getElem?_setIfInBounds_ne (by omega), Array.getElem?_setIfInBounds_self_of_lt (by simp; omega)]; rfl
  | 3, _ => rw [Array.getElem?_setIfInBounds_self_of_lt (by simp; omega)]; rfl

/-- The four cells of a token with marks. -/
def mk4 (m : Int) : Array Value := #[.int .i64 (mkTk m).kind, .int .i64 (mkTk m).num, .string (mkTk m).text, .int .i64 (mkTk m).at_]
/-- The first j tokens have marks. -/
def Mkd (w : World) (g c : Nat) (m : Int) (j : Nat) : Prop := ∃ cur, w.heap[g]? = some (.cells cur IT (0, 0)) ∧ cur.size = c * 4 ∧ ∀ i, i < j → ∀ q, q < 4 → cur[i * 4 + q]? = (mk4 (m + 4 * i))[q]?
theorem Mkd.step {w w2 : World} {g c j : Nat} {m : Int} (h : Mkd w g c m j) (hc : j < c) (h2 : ∀ cur, w.heap[g]? = some (.cells cur IT (0, 0)) → w2.heap[g]? = some (.cells (set4k cur (j * 4) (.int .i64 (mkTk (m + 4 * j)).kind) (.int .i64 (mkTk (m + 4 * j)).num) (.string (mkTk (m + 4 * j)).text) (.int .i64 (mkTk (m + 4 * j)).at_)) IT (0, 0))) : Mkd w2 g c m (j + 1) := by
  obtain ⟨cur, hg, hs, hi⟩ := h
  refine ⟨_, h2 cur hg, by rw [set4k_size, hs], fun i hij q hq => ?_⟩
  by_cases e : i = j
  · subst e
    rw [set4k_in _ _ _ _ _ _ (by omega) q hq]
    rfl
  · rw [set4k_out _ _ _ _ _ _ _ (by omega)]
    exact hi i (by omega) q hq

def MktQ (w : World) (lo : Nat) (v : Value) (m : Int) (n : Nat) (e : Ending) (w' : World) : Prop := e = .returned (.int .i64 (m + 4 * n)) ∧ TRow w' lo v (tmk m n) ∧ Fr (fun b => v.ownBlock = some b) w w'

set_option maxRecDepth 100000 in
set_option maxHeartbeats 1600000 in
theorem markTokenS (ks : List Tk) (m : Int) (hm0 : 1 ≤ m) (hm1 : m + 4 * ks.length ≤ 100000000000) (w : World) (lo : Nat) (v : Value) (h : TRow w lo v ks) : Calls Tryz.prog 25 #[v, .int .i64 m] w (MktQ w lo v m ks.length) := by
  rcases h.cases with ⟨rfl, rfl⟩ | ⟨g, c, cur, rfl, hlo, hg, hn, hc, hs, -⟩
  · unfold MktQ
    have e0 : m + 4 * (([] : List Tk).length : Int) = m := by simp
    rw [e0]
    clear h
    go_enter Tryz.func25, Tryz.ntmps25
    go_wp2_with (fail)
    go_loopg [1, 5] 1 (fun gk l i wr => l = .int .i64 m ∧ i = .int .i64 0 ∧ gk = 1 ∧ w = wr)
    case atStart => exact ⟨rfl, rfl, rfl, rfl⟩
    case round =>
      obtain ⟨rfl, rfl, rfl, rfl⟩ := hrel
      go_wp2_with (fail)
      go_ret
      exact ⟨rfl, World.ownsRow_nil _ _ _ 4, Fr.refl _ _⟩
  · obtain ⟨n, HN⟩ : ∃ n, Hid (ks.length = n) := ⟨_, Lib.hid rfl⟩
    rw [HN.out] at hm1 hn ⊢
    have hnn : n ≤ 100000000000 := by omega
    have HM1 := Lib.hid hm1
    have HC := Lib.hid (And.intro hn hc)
    have HM0 : Hid (Mkd w g c m 0) := Lib.hid ⟨cur, hg, hs, fun i hi => absurd hi (by omega)⟩
    have HLO := Lib.hid hlo
    obtain ⟨W, HW⟩ : ∃ W : Int, Hid (m + 4 * n = W) := ⟨_, Lib.hid rfl⟩
    unfold MktQ
    rw [HW.out]
    clear h hg hn hc hs hm1 hlo
    go_enter Tryz.func25, Tryz.ntmps25
    go_wp2_with (fail)
    go_loopg [1, 5] (n + 1) (fun gk l i wr => ∃ (j : Nat) (q : Int), i = .int .i64 j ∧ l = .int .i64 q ∧ gk + j = n + 1 ∧ j ≤ n ∧ 1 ≤ q ∧ q ≤ 100000000000 ∧ Hid (q = m + 4 * j) ∧ Hid (Mkd wr g c m j) ∧ Hid (Fr (fun b => b = g) w wr))
    case atStart => exact ⟨0, m, rfl, rfl, by omega, by omega, hm0, by have := HM1.out; omega, Lib.hid (by simp), HM0, Lib.hid (Fr.refl _ _)⟩
    case round =>
      obtain ⟨j, q, rfl, rfl, hgj, hjL, hq0, hq1, HQ, HK, HF⟩ := hrel
      by_cases hlt : j < n
      · obtain ⟨cur1, hg1, hs1, -⟩ := HK.out
        have hcc := HC.out
        have hgl : g < wr.heap.size := (Array.getElem?_eq_some_iff.1 hg1).1
        obtain ⟨r, f⟩ := rowc hg1
        have z : ∀ p, p < 4 → ∃ u, wr.cell? ⟨g, j * 4 + p, none⟩ = some u := fun p hp => ⟨_, (r _).trans (Array.getElem?_eq_getElem (by omega))⟩
        obtain ⟨z0, hz0⟩ := z 0 (by omega)
        obtain ⟨z1, hz1⟩ := z 1 (by omega)
        rw [Nat.add_zero] at hz0
        have q3 : q + 4 ≤ 100000000000 := by have := HQ.out; have := HM1.out; omega
        have MT2 := markText (q + 2) (by omega) (by omega)
        obtain ⟨u2, HU2⟩ : ∃ u, Hid (mtx (q + 2) = u) := ⟨_, Lib.hid rfl⟩
        unfold MtQ at MT2
        rw [HU2.out] at MT2
        rw [show q + 2 = q + 1 + 1 by omega] at MT2
        have HS1 := Lib.hid hs1
        have HG1 := Lib.hid hg1
        have HGL := Lib.hid hgl
        have HQ2 : Hid (q + 1 + 1 + 1 + 1 = m + 4 * ((j + 1 : Nat) : Int)) := Lib.hid (by rw [HQ.out]; push_cast; omega)
        clear r z hs1 hg1 hgl hcc
        go_wp2_with (fail)
        refine (MT2 _).mono ?_
        rintro e w1 ⟨rfl, hb1⟩
        have hg2 := carry hb1 (set_heap (set_heap HG1.out (j * 4) _) (j * 4 + 1) _)
        obtain ⟨r, f1⟩ := rowc hg2
        have zz : ∀ p, p < 4 → ∃ u, w1.cell? ⟨g, j * 4 + p, none⟩ = some u := fun p hp => ⟨_, (r _).trans (Array.getElem?_eq_getElem (by have h1 := HS1.out; have h2 := HC.out; simp; omega))⟩
        obtain ⟨z2, hz2⟩ := zz 2 (by omega)
        obtain ⟨z3, hz3⟩ := zz 3 (by omega)
        have HB1 := Lib.hid hb1
        clear r zz hb1 hg2
        go_wp2_with (fail)
        go_roundg (n - j)
        case rel =>
          refine ⟨j + 1, q + 1 + 1 + 1 + 1, by go_num, rfl, by omega, by omega, by omega, by omega, HQ2, Lib.hid (HK.out.step (by have := HC.out; omega) fun cur hcur => ?_), Lib.hid ?_⟩
          · have hq := HQ.out
            have h3 := set_heap (set_heap (carry HB1.out (set_heap (set_heap hcur (j * 4) _) (j * 4 + 1) _)) (j * 4 + 2) (.string u2)) (j * 4 + 3) (.int .i64 (q + 1 + 1 + 1))
            rw [h3, ← hq]
            unfold set4k mkTk
            simp only
            rw [HU2.out, show q + 1 + 1 + 1 = q + 3 by omega]
          · refine HF.out.trans (((Fr.set (w := wr) (S := fun b => b = g) rfl _ _).trans (Fr.set (S := fun b => b = g) rfl _ _)).trans ((Fr.of HB1.out).trans ((Fr.set (S := fun b => b = g) rfl _ _).trans (Fr.set (S := fun b => b = g) rfl _ _))))
        case measure => omega
      · obtain rfl : j = n := by omega
        have e : q = W := by rw [HQ.out, ← HW.out]
        subst e
        go_wp2_with (fail)
        go_ret
        refine ⟨rfl, ?_, HF.out.mono fun b hb => by rw [hb]; rfl⟩
        obtain ⟨cur1, hg1, hs1, hi1⟩ := HK.out
        have := TRow.of (ks := tmk m j) HLO.out hg1 (by rw [tmk_len]; exact HC.out.1) HC.out.2 hs1 fun i y hy p hp => by
          have hi : i < j := by have := (List.getElem?_eq_some_iff.1 hy).1; rwa [tmk_len] at this
          rw [tmk_get m j i hi] at hy
          obtain rfl := Option.some.inj hy
          exact hi1 i hi p hp
        rw [tmk_len] at this
        exact this

end Go.Proofs.YtakdbfifbkngnaaGreatDoor.lex

