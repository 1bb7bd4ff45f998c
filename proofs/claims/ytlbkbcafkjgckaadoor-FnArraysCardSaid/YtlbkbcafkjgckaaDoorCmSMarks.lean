/-
  The laws' marks, put into a value whose lists lie each in a block of its own; and into any value that the law has made.
  Conditions: those that each theorem names.
-/
import Derived.Test.YtlbkbcafkjgckaaDoorCmB4
import Derived.Test.YtlbkbcafkjgckaaDoorCmB3
namespace Go.Proofs.YtlbkbcafkjgckaaDoor.tree
open Go.ChangeShapes Go.WideShapes Go.ChangeAt Go.RowKit
set_option linter.unusedVariables false

/-- Seven cells in a row. -/
def set7 (arr : Array Value) (o : Nat) (c0 c1 c2 c3 c4 c5 c6 : Value) : Array Value :=
  ((((((arr.setIfInBounds o c0).setIfInBounds (o + 1) c1).setIfInBounds (o + 2) c2).setIfInBounds (o + 3) c3).setIfInBounds (o + 4) c4).setIfInBounds (o + 5) c5).setIfInBounds (o + 6) c6
theorem set7_size (arr : Array Value) (o : Nat) (c0 c1 c2 c3 c4 c5 c6 : Value) : (set7 arr o c0 c1 c2 c3 c4 c5 c6).size = arr.size := by simp [set7]
theorem set7_out (arr : Array Value) (o : Nat) (c0 c1 c2 c3 c4 c5 c6 : Value) (p : Nat) (h : p < o ∨ o + 7 ≤ p) : (set7 arr o c0 c1 c2 c3 c4 c5 c6)[p]? = arr[p]? := by
  unfold set7
  iterate 7 rw [Array.getElem?_setIfInBounds_ne (by omega)]
theorem set7_in (arr : Array Value) (o : Nat) (c0 c1 c2 c3 c4 c5 c6 : Value) (h : o + 7 ≤ arr.size) (q : Nat) (hq : q < 7) : (set7 arr o c0 c1 c2 c3 c4 c5 c6)[o + q]? = (#[c0, c1, c2, c3, c4, c5, c6] : Array Value)[q]? := by
  unfold set7
  match q, hq with
  | 0, _ => iterate 6 rw [Array.getElem?_setIfInBounds_ne (by omega)]
            rw [Nat.add_zero, Array.getElem?_setIfInBounds_self_of_lt (by omega)]; rfl
  | 1, _ => iterate 5 rw [Array.getElem?_setIfInBounds_ne (by omega)]
            rw [Array.getElem?_setIfInBounds_self_of_lt (by simp; omega)]; rfl
  | 2, _ => iterate 4 rw [Array.getElem?_setIfInBounds_ne (by omega)]
            rw [Array.getElem?_setIfInBounds_self_of_lt (by simp; omega)]; rfl
  | 3, _ => iterate 3 rw [Array.getElem?_setIfInBounds_ne (by omega)]
            rw [Array.getElem?_setIfInBounds_self_of_lt (by simp; omega)]; rfl
  | 4, _ => iterate 2 rw [Array.getElem?_setIfInBounds_ne (by omega)]
            rw [Array.getElem?_setIfInBounds_self_of_lt (by simp; omega)]; rfl
  | 5, _ => rw [Array.getElem?_setIfInBounds_ne (by omega), Array.getElem?_setIfInBounds_self_of_lt (by simp; omega)]; rfl
  | 6, _ => rw [Array.getElem?_setIfInBounds_self_of_lt (by simp; omega)]; rfl

section
variable {w w' : World} {par : Nat → Nat × Nat} {here : Nat × Nat}
/-- What hangs there, and is there, stays. -/
theorem TPar.keep {t : Tr} {v : Value} (h : TPar w par here t v) (hs : ∀ b, Hang par here b → b < w.heap.size → w'.heap[b]? = w.heap[b]?) : TPar w' par here t v := by
  induction h with
  | mk here k n s x ks vs A cap g arr K N X Z D H hk hl hm hcap hg hc ht ih =>
    by_cases h0 : 0 < vs.length
    · obtain ⟨hA, hp, hlt, hb, hs2⟩ := hg h0
      refine .mk here k n s x ks vs A cap g arr K N X Z D H hk hl hm hcap (fun _ => ⟨hA, hp, hlt, (hs g (.root g hp hlt) (Array.getElem?_eq_some_iff.1 hb).1).trans hb, hs2⟩) hc (fun i hi L hL => ih i hi L hL fun b hb => hs b (hb.sub hp hlt))
    · exact .mk here k n s x ks vs A cap g arr K N X Z D H hk hl hm hcap (fun h => absurd h h0) hc (fun i hi => absurd hi (by omega))

theorem PBlk.step {wr w4 : World} {g j : Nat} {m q : Int} {ks : List Ky} {vs : List Tr} (h : PBlk wr par g (mix (mkK m vs) ks j) (mix (mkV m vs) vs j)) (hkl : ks.length = vs.length) {k1 n1 x1 : Int} {s1 : ByteArray} {ks1 : List Ky} {vs1 : List Tr} (ht : vs[j]? = some (.mk k1 n1 s1 x1 ks1 vs1))
    (hq : q = m + 7 * cnts (vs.take j)) (hq0 : 1 ≤ q) (hq1 : q ≤ 1000000000000) {A1 : Option Addr} {c1 : Nat}
    (hg : ∀ arr, wr.heap[g]? = some (.cells arr IE (0, 0)) → arr[j * 8 + 7]? = some (.slice A1 vs1.length c1) ∧ w4.heap[g]? = some (.cells (set7 arr (j * 8) (.bool (decide (q % 3 = 0))) (.int .i64 (q + 1)) (.string (mtx (q + 2))) (.int .i64 (q + 3)) (.int .i64 (q + 4)) (.string (mtx (q + 5))) (.int .i64 (q + 6))) IE (0, 0)))
    (ho : ∀ b, g < b → b < wr.heap.size → ¬ Hang par (g, j) b → w4.heap[b]? = wr.heap[b]?)
    (htp : TPar w4 par (g, j) (.mk (q + 3) (q + 4) (mtx (q + 5)) (q + 6) (mkK (q + 7) vs1) (mkV (q + 7) vs1)) (vV (q + 3) (q + 4) (mtx (q + 5)) (q + 6) A1 vs1.length c1)) :
    PBlk w4 par g (mix (mkK m vs) ks (j + 1)) (mix (mkV m vs) vs (j + 1)) := by
  obtain ⟨hj, -⟩ := List.getElem?_eq_some_iff.1 ht
  obtain ⟨arr, ha, hs, hi⟩ := h
  obtain ⟨hsl, hg4⟩ := hg arr ha
  have hl1 : (mkV m vs).length = vs.length := mkV_len m vs
  have hl2 : (mkK m vs).length = ks.length := by rw [mkK_len, hkl]
  rw [mix_len hl1] at hs hi
  refine ⟨_, hg4, by rw [mix_len hl1, set7_size]; exact hs, fun i hil => ?_⟩
  rw [mix_len hl1] at hil
  by_cases e : i = j
  · subst e
    have hy : (mix (mkK m vs) ks (i + 1))[i]? = some (mkY q) := by rw [mix_lt hl2 (by omega) (by omega), mkK_get m vs i _ ht, hq]
    have hv : (mix (mkV m vs) vs (i + 1))[i]? = some (.mk (q + 3) (q + 4) (mtx (q + 5)) (q + 6) (mkK (q + 7) vs1) (mkV (q + 7) vs1)) := by rw [mix_lt hl1 (by omega) (by omega), mkV_get m vs i _ ht, ← hq, mkT_mk]
    refine ⟨mkY q, _, _, _, _, _, _, A1, c1, hy, hv, ⟨by show I64 (q + 1); unfold I64; omega, by show (mtx (q + 2)).size ≤ maxLen; have := mtx_size (q + 2); unfold maxLen; omega⟩, fun p hp => ?_, by rw [mkV_len]; exact htp⟩
    by_cases hp7 : p < 7
    · rw [set7_in _ _ _ _ _ _ _ _ _ (by omega) p hp7]
      match p, hp7 with
      | 0, _ => rfl
      | 1, _ => rfl
      | 2, _ => rfl
      | 3, _ => rfl
      | 4, _ => rfl
      | 5, _ => rfl
      | 6, _ => rfl
    · obtain rfl : p = 7 := by omega
      rw [set7_out _ _ _ _ _ _ _ _ _ _ (by omega), hsl, mkV_len]
      rfl
  · obtain ⟨y, k, n, s, x, ks', vs', A, c, hy, hv, hyb, hat, hT⟩ := hi i hil
    have same : (mix (mkK m vs) ks (j + 1))[i]? = (mix (mkK m vs) ks j)[i]? ∧ (mix (mkV m vs) vs (j + 1))[i]? = (mix (mkV m vs) vs j)[i]? := by
      by_cases hlt : i < j
      · rw [mix_lt hl2 (by omega) (by omega), mix_lt hl2 hlt (by omega), mix_lt hl1 (by omega) (by omega), mix_lt hl1 hlt (by omega)]
        exact ⟨rfl, rfl⟩
      · rw [mix_ge hl2 (by omega) (by omega), mix_ge hl2 (by omega) (by omega), mix_ge hl1 (by omega) (by omega), mix_ge hl1 (by omega) (by omega)]
        exact ⟨rfl, rfl⟩
    refine ⟨y, k, n, s, x, ks', vs', A, c, by rw [same.1, hy], by rw [same.2, hv], hyb, fun p hp => ?_, hT.keep fun b hb hlt => ho b hb.gt hlt fun hh => e (hb.disj hh)⟩
    rw [set7_out _ _ _ _ _ _ _ _ _ _ (by omega)]
    exact hat p hp
end

def MkQ (w : World) (par : Nat → Nat × Nat) (here : Nat × Nat) (t : Tr) (v : Value) (m : Int) (e : Ending) (w' : World) : Prop := e = .returned (.int .i64 m) ∧ TPar w' par here t v ∧ Fr (Hang par here) w w'


end Go.Proofs.YtlbkbcafkjgckaaDoor.tree

